/-
  WALKS: the law of true bounds.
-/
import Derived.Test.YteinabcklmpcjaaPxG
import Derived.Deep.RegionHeld3
import Derived.Deep.DeepCutAuto
namespace Go.Proofs.Yteinabcklmpcjaa
open Go.RowKit

theorem own_int {W : World} {B g n cap : Nat} {p : Nat → Int} (h : W.ownsRow B 3 1 (.slice (some ⟨g, 0, none⟩) n cap) n (jrow p n)) : Sl W 1 (some ⟨g, 0, none⟩) n p := fun _ => ⟨g, 0, rfl, fun i hi => by
  rw [Nat.zero_add, World.ownsRow.cellAt h i (by omega), jrow_get p (by omega)]⟩
theorem own_bd {W : World} {B g n cap : Nat} {f : Nat → Int} (h : W.ownsRow B 98 3 (.slice (some ⟨g, 0, none⟩) n cap) n (brow f n)) : Sl W 3 (some ⟨g, 0, none⟩) n f := fun _ => ⟨g, 0, rfl, fun i hi => by
  rw [Nat.zero_add, World.ownsRow.cellAt h i (by omega), brow_get f hi]⟩
theorem own_nil {W : World} {B L : Nat} (f : Nat → Int) (h : W.heap[L]? = some (.cells #[] 98 (0, 0))) (hB : B ≤ L) : W.ownsRow B 98 3 (.slice (some ⟨L, 0, none⟩) 0 0) 0 (brow f 0) := ⟨rfl, .inr ⟨L, 0, #[], rfl, hB, h, Nat.le_refl _, by decide, rfl, rfl⟩⟩
def qF (y0 y1 y2 y3 : Int) (i : Nat) : Int := if i = 0 then y0 else if i = 1 then y1 else if i = 2 then y2 else y3
theorem sq_of {W : World} {M : Nat} {y0 y1 y2 y3 : Int} {t : TypeId} (h : W.heap[M]? = some (.cells #[.int .u8 y0, .int .u8 y1, .int .u8 y2, .int .u8 y3] t (0, 0))) : Sq W (some ⟨M, 0, none⟩) 1 (qF y0 y1 y2 y3) := fun _ => ⟨M, 0, rfl, fun i hi => by
  rw [Nat.zero_add]
  rcases (by omega : i = 0 ∨ i = 1 ∨ i = 2 ∨ i = 3) with rfl | rfl | rfl | rfl
  all_goals exact cell_h h rfl⟩
/-- The ways of PlaceHolds' comparison. -/
def Wide (lo hi lo' hi' p : Int) (bl bh bl' bh' : Bool) : Prop := (bl = true → lo ≤ p ∧ bl' = true ∧ lo' ≥ lo) ∧ (bh = true → p ≤ hi ∧ bh' = true ∧ hi' ≤ hi)

set_option maxRecDepth 100000 in
set_option maxHeartbeats 8000000 in
theorem holds_law (w : World) (a : Option Addr) (n c : Nat) (s : Nat → Int) (a2 : Option Addr) (m c2 : Nat) (g : Nat → Int) (y0 y1 y2 y3 : Int)
    (hn : n ≤ maxLen) (hm : m ≤ maxLen) (hs : ∀ i, i < n → 0 ≤ s i ∧ s i ≤ 65535) (hg : ∀ i, i < m * 4 → 0 ≤ g i ∧ g i ≤ 255) (hy : (0 ≤ y0 ∧ y0 ≤ 255) ∧ (0 ≤ y1 ∧ y1 ≤ 255) ∧ (0 ≤ y2 ∧ y2 ≤ 255) ∧ 0 ≤ y3 ∧ y3 ≤ 255) (hS : Sh w a n s) (hK : Sq w a2 m g) :
    Calls Try.prog 12 #[.slice a n c, .slice a2 m c2, .agg #[.int .u8 y0, .int .u8 y1, .int .u8 y2, .int .u8 y3]] w fun e w' => e = .returned (.bool true) ∧ Below w.heap.size w w' := by
  have hmx : maxLen = 9223372036854775807 := rfl
  have hB : Below w.heap.size w (w.alloc (.cells #[.int .u8 y0, .int .u8 y1, .int .u8 y2, .int .u8 y3] 91)) := (Below.refl _ w).alloc (Nat.le_refl _) _
  have a0 := World.alloc_heap_new w (.cells #[.int .u8 y0, .int .u8 y1, .int .u8 y2, .int .u8 y3] 91)
  by_cases h1 : 9 < n ∨ 20 < m
  · have HB := Lib.hid hB
    clear hB hs hg hS hK a0
    rcases (by omega : 9 < n ∨ (n ≤ 9 ∧ 20 < m)) with h2 | ⟨h2, h3⟩
    all_goals
      clear h1
      go_enter Try.func12, Try.ntmps12
      go_wp2_with fail
      refine (awake_of _).mono ?_
      rintro e w2 ⟨rfl, hB2⟩
      have HB2 := Lib.hid (HB.out.trans (hB2.mono HB.out.size))
      clear hB2
      go_wp2_with fail
      go_ret
      exact ⟨rfl, HB2.out⟩
  have hn9 : n ≤ 9 := by omega
  have hm20 : m ≤ 20 := by omega
  have HSw := Lib.hid hs
  have HGw := Lib.hid hg
  have hpb : ∀ i, i < n + 1 → 0 ≤ plS s i ∧ plS s i ≤ 589815 := fun i hi => by have := plS_bd hs i (by omega); omega
  have HPb := Lib.hid hpb
  have hp0 : plS s 0 = 0 := rfl
  have S1 : Hid (Sh (w.alloc (.cells #[.int .u8 y0, .int .u8 y1, .int .u8 y2, .int .u8 y3] 91)) a n s) := fun hpos => by
    obtain ⟨b, o, e, hc⟩ := hS hpos
    exact ⟨b, o, e, fun i hi => (hB.cell (p := ⟨b, o + i, none⟩) (cell_lt (hc i hi))).trans (hc i hi)⟩
  have HK : Hid (∀ W, Below w.heap.size w W → Sq W a2 m g) := fun W hW hpos => by
    obtain ⟨b, o, e, hc⟩ := hK hpos
    exact ⟨b, o, e, fun i hi => (hW.cell (p := ⟨b, o + i, none⟩) (cell_lt (hc i hi))).trans (hc i hi)⟩
  clear h1 hmx hs hg hpb hS hK hn hm
  go_enter Try.func12, Try.ntmps12
  go_wp2_with fail
  generalize w.alloc (.cells #[.int .u8 y0, .int .u8 y1, .int .u8 y2, .int .u8 y3] 91) = W at hB a0 S1 ⊢
  refine (truly_of W a n c s hn9 HSw.out S1.out).mono ?_
  rintro e W1 ⟨gp, cp, rfl, hO1, hB1⟩
  have a1 := (hB1.block _ (Array.getElem?_eq_some_iff.1 a0).1).trans a0
  have P1 := Lib.hid (own_int hO1)
  have HB1 := Lib.hid (hB.trans (hB1.mono hB.size))
  have HA1 := Lib.hid a1
  clear a0 a1 hB hB1 hO1 S1
  go_wp2_with fail
  refine (told_of W1 _ (n + 1) cp (plS s) a2 m c2 g (by omega) hm20 HPb.out HGw.out P1.out (HK.out W1 HB1.out)).mono ?_
  rintro e W2 ⟨vb, cnt, F, rfl, hcnt, hT, hz, hO2, hB2⟩
  obtain ⟨xb, cb, rfl, hSb⟩ := brow_own hO2
  have a2' := (hB2.block _ (Array.getElem?_eq_some_iff.1 HA1.out).1).trans HA1.out
  have P2 := Lib.hid (P1.out.keep (by decide) hB2)
  have HB2 := Lib.hid (HB1.out.trans (hB2.mono HB1.out.size))
  have HA2 := Lib.hid a2'
  have O2 := Lib.hid (own_base hO2 (HB1.out.size))
  have S2 := Lib.hid hSb
  have HT := Lib.hid hT
  have HZ := Lib.hid hz
  clear a2' hB2 hO2 hSb hT hz HA1 HB1 P1
  go_wp2_with fail
  have hcn : cnt ≤ 256 := by omega
  have hN64 : 1 ≤ n + 1 ∧ n + 1 ≤ 64 := by omega
  have HL := Lib.hid (limits_ok W2 F (n + 1) cnt cb xb (HT.out.bok hN64 hcn) S2.out (true_noclash HT.out hN64 hcn))
  refine HL.out.mono ?_
  rintro e W3 ⟨B1, rfl, hb1, hL1, hB3⟩
  have a3 := (hB3.block _ (Array.getElem?_eq_some_iff.1 HA2.out).1).trans HA2.out
  have HB3 := Lib.hid (HB2.out.trans (hB3.mono HB2.out.size))
  have P3 := Lib.hid (P2.out.keep (by decide) hB3)
  have S3 := Lib.hid (S2.out.keep (by decide) hB3)
  have O3 := Lib.hid (own_below O2.out hB3)
  have HL1 := Lib.hid hL1
  have hw3 : w.heap.size < W3.heap.size := (Array.getElem?_eq_some_iff.1 a3).1
  have hB1W : B1 < W3.heap.size := hL1.lt
  have HQ : Hid (∀ i, i < 1 * 4 → 0 ≤ qF y0 y1 y2 y3 i ∧ qF y0 y1 y2 y3 i ≤ 255) := fun i hi => by
    rcases (by omega : i = 0 ∨ i = 1 ∨ i = 2 ∨ i = 3) with rfl | rfl | rfl | rfl
    · exact hy.1
    · exact hy.2.1
    · exact hy.2.2.1
    · exact hy.2.2.2
  have HR3 : Hid (Below W3.heap.size W3 W3) := Below.refl _ _
  have HT0 : Hid (TrueB (n + 1) (plS s) cnt (cat (fun _ => 0) 0 F)) := by
    have h := TrueB.cat (N := n + 1) (pl := plS s) (a := 0) (F := fun _ => 0) (fun i hi => absurd hi (by omega)) HT.out
    rwa [Nat.zero_add] at h
  have HA3 := Lib.hid a3
  have x0 : W3.cell? ⟨w.heap.size, 0, none⟩ = some (.int .u8 y0) := cell_h a3 rfl
  have x1 : W3.cell? ⟨w.heap.size, 1, none⟩ = some (.int .u8 y1) := cell_h a3 rfl
  have x2 : W3.cell? ⟨w.heap.size, 2, none⟩ = some (.int .u8 y2) := cell_h a3 rfl
  have x3 : W3.cell? ⟨w.heap.size, 3, none⟩ = some (.int .u8 y3) := cell_h a3 rfl
  clear hB3 a3 hL1 HA2 HB2 O2 S2 P2 HL
  go_wp2_with fail
  go_region_held3 (fun w' => w'.cell? ⟨w.heap.size, 0, none⟩ = some (.int .u8 y0) ∧ w'.cell? ⟨w.heap.size, 1, none⟩ = some (.int .u8 y1) ∧ w'.cell? ⟨w.heap.size, 2, none⟩ = some (.int .u8 y2) ∧ w'.cell? ⟨w.heap.size, 3, none⟩ = some (.int .u8 y3)) (go_keep)
    (first
    | (refine step_cat (by rfl) (.tmp 45) (.tmp 46) (by rfl) (k := 0) (b := cnt) (kb := cnt) (F := fun _ => 0) (G := F) (v2 := .slice xb cnt cb) (B := w.heap.size) (B2 := w.heap.size) (by omega) (by rfl) (by rfl) (own_nil _ (by first | exact World.alloc_heap_new _ _ | exact al_old (World.alloc_heap_new _ _) _ | exact al_1 _ _ _) (by first | omega | (simp; done) | (simp; omega))) (by first | exact O3.out.alloc _ | exact (O3.out.alloc _).alloc _) HZ.out (by omega) (by omega) (by first | omega | (simp; done) | (simp; omega)) ?_
       intro g4 cap4 w4 o4 gr4 at4
       have A4 : w4.heap[w.heap.size]? = some (.cells #[.int .u8 y0, .int .u8 y1, .int .u8 y2, .int .u8 y3] 91 (0, 0)) := (gr4.block _ (by first | omega | (simp; done) | (simp; omega)) (fun e => by have e := Option.some.inj e; first | omega | (simp at e; omega) | simp at e)).trans (by first | exact al_old HA3.out _ | exact al_old (al_old HA3.out _) _)
       have c40 : w4.cell? ⟨w.heap.size, 0, none⟩ = some (.int .u8 y0) := cell_h A4 rfl
       have c41 : w4.cell? ⟨w.heap.size, 1, none⟩ = some (.int .u8 y1) := cell_h A4 rfl
       have c42 : w4.cell? ⟨w.heap.size, 2, none⟩ = some (.int .u8 y2) := cell_h A4 rfl
       have c43 : w4.cell? ⟨w.heap.size, 3, none⟩ = some (.int .u8 y3) := cell_h A4 rfl
       have s4 := gr4.size
       simp at s4 at4
       have b4 : Below W3.heap.size W3 w4 := Below.grown (by first | exact HR3.out.drew.alloc (Nat.le_refl _) _ | exact (HR3.out.drew.alloc (Nat.le_refl _) _).alloc (by first | omega | (simp; done) | (simp; omega)) _) gr4 (by first | omega | (simp; done) | (simp; omega)) (fun k e => by have e := Option.some.inj e; first | omega | (simp at e; omega) | simp at e))
    | (go_at_call 44
       refine (told_of _ (some ⟨gp, 0, none⟩) (n + 1) cp (plS s) _ 1 1 (qF y0 y1 y2 y3) (by omega) (by omega) HPb.out HQ.out (P3.out.keep (by decide) (by first | exact b4 | exact b4.alloc b4.size _)) (sq_of (t := 91) (by first | exact World.alloc_heap_new _ _ | exact (gr4.block _ (by first | omega | (simp; done) | (simp; omega)) (fun e => by have e := Option.some.inj e; first | omega | (simp at e; omega) | simp at e)).trans (al_1 _ _ _) | exact (gr4.block _ (by first | omega | (simp; done) | (simp; omega)) (fun e => by have e := Option.some.inj e; first | omega | (simp at e; omega) | simp at e)).trans (al_old (World.alloc_heap_new _ _) _)))).mono ?_
       rintro e w5 ⟨v5, cnt5, F5, rfl, hc5, hT5, hz5, o5, hb5⟩
       have hs5 : w.heap.size < w4.heap.size := by omega
       have A5 : w5.heap[w.heap.size]? = some (.cells #[.int .u8 y0, .int .u8 y1, .int .u8 y2, .int .u8 y3] 91 (0, 0)) := (hb5.block _ (by first | omega | (simp; done) | (simp; omega))).trans (by first | exact A4 | exact al_old A4 _)
       have c50 : w5.cell? ⟨w.heap.size, 0, none⟩ = some (.int .u8 y0) := cell_h A5 rfl
       have c51 : w5.cell? ⟨w.heap.size, 1, none⟩ = some (.int .u8 y1) := cell_h A5 rfl
       have c52 : w5.cell? ⟨w.heap.size, 2, none⟩ = some (.int .u8 y2) := cell_h A5 rfl
       have c53 : w5.cell? ⟨w.heap.size, 3, none⟩ = some (.int .u8 y3) := cell_h A5 rfl
       have b5 : Below W3.heap.size W3 w5 := by first | exact b4.trans (hb5.mono b4.size) | exact (b4.alloc b4.size _).trans (hb5.mono (b4.alloc b4.size _).size)
       have o45 := own_below (by first | exact o4 | exact o4.alloc _) hb5
       have s5 := hb5.size
       (try simp at s5))
    | (refine step_cat (by rfl) (.tmp 47) (.tmp 51) (by rfl) (k := cnt) (b := cnt5) (kb := cnt + cnt5) (F := cat (fun _ => 0) 0 F) (G := F5) (v2 := v5) (B := w.heap.size) (by rfl) (by rfl) (by rfl) o45 o5 hz5 (by omega) (by omega) (by omega) ?_
       intro g6 cap6 w6 o6 gr6 at6
       have A6 : w6.heap[w.heap.size]? = some (.cells #[.int .u8 y0, .int .u8 y1, .int .u8 y2, .int .u8 y3] 91 (0, 0)) := (gr6.block _ (by first | omega | (simp; done) | (simp; omega)) (fun e => by have e := Option.some.inj e; omega)).trans A5
       have c60 : w6.cell? ⟨w.heap.size, 0, none⟩ = some (.int .u8 y0) := cell_h A6 rfl
       have c61 : w6.cell? ⟨w.heap.size, 1, none⟩ = some (.int .u8 y1) := cell_h A6 rfl
       have c62 : w6.cell? ⟨w.heap.size, 2, none⟩ = some (.int .u8 y2) := cell_h A6 rfl
       have c63 : w6.cell? ⟨w.heap.size, 3, none⟩ = some (.int .u8 y3) := cell_h A6 rfl
       have b6 : Below W3.heap.size W3 w6 := b5.grown gr6 b5.size (fun k e => by have e := Option.some.inj e; omega)
       have s6 := gr6.size)
    | (go_at_call 30
       refine (limits_ok _ (cat (cat (fun _ => 0) 0 F) cnt F5) (n + 1) (cnt + cnt5) cap6 (some ⟨g6, 0, none⟩) ((HT0.out.cat hT5).bok hN64 (by omega)) (own_bd o6) (true_noclash (HT0.out.cat hT5) hN64 (by omega))).mono ?_
       rintro e w7 ⟨B2, rfl, hb7, hL7, hB7⟩
       have A7 : w7.heap[w.heap.size]? = some (.cells #[.int .u8 y0, .int .u8 y1, .int .u8 y2, .int .u8 y3] 91 (0, 0)) := (hB7.block _ (by first | omega | (simp; done) | (simp; omega))).trans A6
       have c70 : w7.cell? ⟨w.heap.size, 0, none⟩ = some (.int .u8 y0) := cell_h A7 rfl
       have c71 : w7.cell? ⟨w.heap.size, 1, none⟩ = some (.int .u8 y1) := cell_h A7 rfl
       have c72 : w7.cell? ⟨w.heap.size, 2, none⟩ = some (.int .u8 y2) := cell_h A7 rfl
       have c73 : w7.cell? ⟨w.heap.size, 3, none⟩ = some (.int .u8 y3) := cell_h A7 rfl
       have b7 : Below W3.heap.size W3 w7 := b6.trans (hB7.mono b6.size)))
  all_goals
    have hle : cnt ≤ cnt + cnt5 := by omega
    have HW : Hid (∀ k, ((ptD F cnt (n + 1)).kn k = true → -(ptD F cnt (n + 1)).mo k ≤ plS s k ∧ (ptD (cat (cat (fun _ => 0) 0 F) cnt F5) (cnt + cnt5) (n + 1)).kn k = true ∧ -(ptD F cnt (n + 1)).mo k ≤ -(ptD (cat (cat (fun _ => 0) 0 F) cnt F5) (cnt + cnt5) (n + 1)).mo k) ∧
        ((ptU F cnt (n + 1)).kn k = true → plS s k ≤ (ptU F cnt (n + 1)).mo k ∧ (ptU (cat (cat (fun _ => 0) 0 F) cnt F5) (cnt + cnt5) (n + 1)).kn k = true ∧ (ptU (cat (cat (fun _ => 0) 0 F) cnt F5) (cnt + cnt5) (n + 1)).mo k ≤ (ptU F cnt (n + 1)).mo k)) := fun k =>
      holds_lim HT.out (HT0.out.cat hT5) hN64 hle (by omega) (fun i hi => by
        rw [cat_lo _ _ _ hi]
        have := cat_hi (fun _ => 0) 0 F i
        rwa [Nat.zero_mul, Nat.zero_add] at this) hp0 k
    have HD1 := Lib.hid (HL1.out.keep b7 hB1W)
    have HD2 := Lib.hid hL7
    have P7 := Lib.hid (P3.out.keep (by decide) b7)
    have S7 := Lib.hid (S3.out.keep (by decide) b7)
    have HB7 := Lib.hid (HB3.out.trans (b7.mono HB3.out.size))
    have HFt := fits_of w7 ((n + 1 : Nat) : Int) xb (some ⟨gp, 0, none⟩) cnt cb (n + 1) cp F (plS s) (by omega) S7.out P7.out
    rw [fits_true HT.out hN64 hcn HPb.out] at HFt
    have HFt := Lib.hid HFt
    have HBk := Lib.hid (HT.out.bok hN64 hcn)
    have HNc := Lib.hid (true_noclash HT.out hN64 hcn)
    generalize ptU F cnt (n + 1) = U1 at HW HD1
    generalize ptD F cnt (n + 1) = D1 at HW HD1
    generalize ptU (cat (cat (fun _ => 0) 0 F) cnt F5) (cnt + cnt5) (n + 1) = U2 at HW HD2
    generalize ptD (cat (cat (fun _ => 0) 0 F) cnt F5) (cnt + cnt5) (n + 1) = D2 at HW HD2
    clear HL1 hL7 P3 S3 HB3 b7 A7 hB7 hb7 hb1 hB1W b6 A6 o6 gr6 at6 s6 A5 b5 o45 s5 o5 hz5 hT5 hb5 hs5 A4 s4 at4 b4 o4 gr4 HQ HR3 HT0 HA3 x0 x1 x2 x3 HK HSw HGw O3 HT HZ
    clear c40 c41 c42 c43 c50 c51 c52 c53 c60 c61 c62 c63 c70 c71 c72 c73
    go_wp2_with fail
    refine HFt.out.mono ?_
    rintro e w8 ⟨rfl, hB8⟩
    have HD1 := Lib.hid (HD1.out.keep hB8 HD1.out.lt)
    have HD2 := Lib.hid (HD2.out.keep hB8 HD2.out.lt)
    have P8 := Lib.hid (P7.out.keep (by decide) hB8)
    have S8 := Lib.hid (S7.out.keep (by decide) hB8)
    have HB8 := Lib.hid (HB7.out.trans (hB8.mono HB7.out.size))
    clear hB8 HFt P7 S7 HB7
    dsimp only [ft2]
    go_wp2_with fail
    refine (clash_none w8 F (n + 1) cnt cb xb HBk.out S8.out HNc.out).mono ?_
    rintro e w9 ⟨rfl, hB9⟩
    have HD1 := Lib.hid (HD1.out.keep hB9 HD1.out.lt)
    have HD2 := Lib.hid (HD2.out.keep hB9 HD2.out.lt)
    have P9 := Lib.hid (P8.out.keep (by decide) hB9)
    have HB9 := Lib.hid (HB8.out.trans (hB9.mono HB8.out.size))
    clear hB9 HBk HNc P8 S8 HB8
    go_wp2_with fail
    have HR9 : Hid (Below w9.heap.size w9 w9) := Below.refl _ _
    go_loopw [99] (fun vi wr => ∃ k : Nat, k ≤ n + 1 ∧ vi = .int .i64 k ∧ Hid (Below w9.heap.size w9 wr)) (fun vi _ => n + 1 - (intOf vi).toNat)
    case atStart => exact ⟨0, by omega, rfl, HR9.out⟩
    case round =>
      obtain ⟨k, hk, rfl, HR⟩ := hrel
      by_cases hlt : k < n + 1
      · obtain ⟨bq, oq, eq, hI⟩ := P9.out (by omega)
        cases eq
        have hIk := (hI.keep HR.out (hI.lt (by omega))) k (by omega)
        rw [Nat.zero_add] at hIk
        have hgl : gp < wr.heap.size := Nat.lt_of_lt_of_le (hI.lt (by omega)) HR.out.size
        have k1 := HD1.out.keep HR.out HD1.out.lt
        have k2 := HD2.out.keep HR.out HD2.out.lt
        have e10 := k1.cell (k := k * 4) (by omega)
        have e11 := k1.cell (k := k * 4 + 1) (by omega)
        have e12 := k1.cell (k := k * 4 + 2) (by omega)
        have e13 := k1.cell (k := k * 4 + 3) (by omega)
        have e20 := k2.cell (k := k * 4) (by omega)
        have e21 := k2.cell (k := k * 4 + 1) (by omega)
        have e22 := k2.cell (k := k * 4 + 2) (by omega)
        have e23 := k2.cell (k := k * 4 + 3) (by omega)
        rw [lmV_0] at e10 e20
        rw [lmV_1] at e11 e21
        rw [lmV_2] at e12 e22
        rw [lmV_3] at e13 e23
        have hw := HW.out k
        generalize -(D1.mo k) = L1 at e10 hw
        generalize U1.mo k = H1 at e11 hw
        generalize D1.kn k = l1 at e12 hw
        generalize U1.kn k = h1 at e13 hw
        generalize -(D2.mo k) = L2 at e20 hw
        generalize U2.mo k = H2 at e21 hw
        generalize D2.kn k = l2 at e22 hw
        generalize U2.kn k = h2 at e23 hw
        generalize plS s k = pk at hIk hw
        have hkk : (k : Int) < (n : Int) + 1 := by omega
        have hkk2 : (k : Int) < ((n + 1 : Nat) : Int) := by omega
        have hk0 : (0 : Int) ≤ (k : Int) := by omega
        have HWk := Lib.hid hw
        have HI := Lib.hid hIk
        clear hw k1 k2 hI HW hIk
        go_upto_region 17 with fail
        go_cut [19, 20] (fun s19 s20 wx => ∃ b1 b2, s19 = .pointer (some ⟨b1, 0, none⟩) ∧ s20 = .pointer (some ⟨b2, 0, none⟩) ∧ wx.heap[b1]? = some (.cells #[.int .i64 L1, .int .i64 H1, .bool l1, .bool h1] 95 (0, 0)) ∧ wx.heap[b2]? = some (.cells #[.int .i64 L2, .int .i64 H2, .bool l2, .bool h2] 95 (0, 0)) ∧ Below wr.heap.size wr wx)
        case first =>
          go_region_held3 (fun w' => w'.cell? ⟨B1, k * 4, none⟩ = some (.int .i64 L1) ∧ w'.cell? ⟨B1, k * 4 + 1, none⟩ = some (.int .i64 H1) ∧ w'.cell? ⟨B1, k * 4 + 2, none⟩ = some (.bool l1) ∧ w'.cell? ⟨B1, k * 4 + 3, none⟩ = some (.bool h1) ∧ w'.cell? ⟨B2, k * 4, none⟩ = some (.int .i64 L2) ∧ w'.cell? ⟨B2, k * 4 + 1, none⟩ = some (.int .i64 H2) ∧ w'.cell? ⟨B2, k * 4 + 2, none⟩ = some (.bool l2) ∧ w'.cell? ⟨B2, k * 4 + 3, none⟩ = some (.bool h2)) (go_keep) (fail)
          all_goals
            go_wp2_with fail
            go_meet
            first
              | exact ⟨_, _, rfl, rfl, al_old (World.alloc_heap_new wr _) _, al_1 wr _ _, (((Below.refl _ wr).alloc (Nat.le_refl _) _).alloc (by simp) _).drew⟩
              | exact ⟨_, _, rfl, rfl, al_1 wr _ _, al_old (World.alloc_heap_new wr _) _, (((Below.refl _ wr).alloc (Nat.le_refl _) _).alloc (by simp) _).drew⟩
        case rest =>
          obtain ⟨b1, b2, rfl, rfl, q1, q2, hBx⟩ := hcut
          have pc := (hBx.cell (p := ⟨gp, k, none⟩) hgl).trans HI.out
          have r10 : wc.cell? ⟨b1, 0, none⟩ = some (.int .i64 L1) := cell_h q1 rfl
          have r11 : wc.cell? ⟨b1, 1, none⟩ = some (.int .i64 H1) := cell_h q1 rfl
          have r12 : wc.cell? ⟨b1, 2, none⟩ = some (.bool l1) := cell_h q1 rfl
          have r13 : wc.cell? ⟨b1, 3, none⟩ = some (.bool h1) := cell_h q1 rfl
          have r20 : wc.cell? ⟨b2, 0, none⟩ = some (.int .i64 L2) := cell_h q2 rfl
          have r21 : wc.cell? ⟨b2, 1, none⟩ = some (.int .i64 H2) := cell_h q2 rfl
          have r22 : wc.cell? ⟨b2, 2, none⟩ = some (.bool l2) := cell_h q2 rfl
          have r23 : wc.cell? ⟨b2, 3, none⟩ = some (.bool h2) := cell_h q2 rfl
          have HRx := Lib.hid (HR.out.trans (hBx.mono HR.out.size))
          have hA : (l1 = false ∧ l2 = false) ∨ (l1 = false ∧ l2 = true) ∨ (l1 = true ∧ l2 = true ∧ decide (pk < L1) = false ∧ decide (L2 < L1) = false) := by
            cases l1
            · cases l2 <;> simp
            · obtain ⟨x1, x2, x3⟩ := HWk.out.1 rfl
              exact .inr (.inr ⟨rfl, x2, decide_eq_false (by omega), decide_eq_false (by omega)⟩)
          have hBb : (h1 = false ∧ h2 = false) ∨ (h1 = false ∧ h2 = true) ∨ (h1 = true ∧ h2 = true ∧ decide (H1 < pk) = false ∧ decide (H1 < H2) = false) := by
            cases h1
            · cases h2 <;> simp
            · obtain ⟨x1, x2, x3⟩ := HWk.out.2 rfl
              exact .inr (.inr ⟨rfl, x2, decide_eq_false (by omega), decide_eq_false (by omega)⟩)
          clear q1 q2 hBx e10 e11 e12 e13 e20 e21 e22 e23 HWk HI
          rcases hA with ⟨rfl, rfl⟩ | ⟨rfl, rfl⟩ | ⟨rfl, rfl, da1, da2⟩
          all_goals
            rcases hBb with ⟨rfl, rfl⟩ | ⟨rfl, rfl⟩ | ⟨rfl, rfl, db1, db2⟩
          all_goals
            go_wp2_with fail
            go_quiet (fail)
            go_wp2_with fail
            exact ⟨⟨k + 1, by omega, by go_num, ⟨HRx.out.os, HRx.out.tape, HRx.out.output, HRx.out.size, HRx.out.block⟩⟩, by simp [intOf]; omega⟩
      · obtain rfl : k = n + 1 := by omega
        go_wp2_with fail
        refine (awake_of _).mono ?_
        rintro e W6 ⟨rfl, hB6⟩
        have HB6 := Lib.hid ((HB9.out.trans (HR.out.mono HB9.out.size)).trans (hB6.mono (HB9.out.trans (HR.out.mono HB9.out.size)).size))
        clear hB6
        go_wp2_with fail
        go_ret
        exact ⟨rfl, HB6.out⟩
end Go.Proofs.Yteinabcklmpcjaa
