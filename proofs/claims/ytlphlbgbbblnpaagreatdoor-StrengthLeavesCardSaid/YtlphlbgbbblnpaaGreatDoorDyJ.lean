/-
  WALKS AND WORDS: Num11 Span1 Span2 Span3 of my texts, one behind the other.
-/
import Derived.Test.YtlphlbgbbblnpaaGreatDoorDyI
-- Num11: WALKS: Over, for a divisor of one digit.
namespace Go.Proofs.YtlphlbgbbblnpaaGreatDoor.Dy
open Go.RowKit

end Go.Proofs.YtlphlbgbbblnpaaGreatDoor.Dy
-- Span1: WALKS: spans: Only, hull; clampBits.
namespace Go.Proofs.YtlphlbgbbblnpaaGreatDoor.Dy
open Go.RowKit

/-- A span in memory. -/
def Sp (w : World) (v : Value) (x y : Dyadic) : Prop :=
  ∃ (a1 : Bool) (p1 : Option Addr) (n1 k1 : Nat) (e1 : Int) (a2 : Bool) (p2 : Option Addr) (n2 k2 : Nat) (e2 : Int),
    v = .agg #[.bool a1, .slice p1 n1 k1, .int .i64 e1, .bool a2, .slice p2 n2 k2, .int .i64 e2] ∧ Nm w (.agg #[.bool a1, .slice p1 n1 k1, .int .i64 e1]) x ∧ Nm w (.agg #[.bool a2, .slice p2 n2 k2, .int .i64 e2]) y
theorem Sp.keep {w w' : World} {v : Value} {x y : Dyadic} (h : Sp w v x y) (hb : Below w.heap.size w w') : Sp w' v x y := by
  obtain ⟨a1, p1, n1, k1, e1, a2, p2, n2, k2, e2, hv, h1, h2⟩ := h
  exact ⟨a1, p1, n1, k1, e1, a2, p2, n2, k2, e2, hv, h1.keep hb, h2.keep hb⟩

set_option maxHeartbeats 800000 in
theorem clamp (w : World) (k : Int) (h0 : 0 ≤ k) (h1 : k ≤ 256) :
    Calls Tryz.prog 140 #[.int .i64 k] w fun e w' => e = .returned (.int .i64 k) ∧ w' = w := by
  have hm : max k 0 = k := by omega
  have hm2 : min k 256 = k := by omega
  go_enter Tryz.func140, Tryz.ntmps140
  go_wp2
  go_ret
  exact ⟨rfl, rfl⟩

set_option maxHeartbeats 1600000 in
theorem only_nm (w : World) (v : Value) (x : Dyadic) (h : Nm w v x) :
    Calls Tryz.prog 164 #[v] w (Ret w fun w' v => Sp w' v x x) := by
  have H1 := Lib.hid h
  obtain ⟨a, p, n, k, e, m, rfl, hn, hc⟩ := h.fields
  clear h hn hc
  go_enter Tryz.func164, Tryz.ntmps164
  go_wp2
  have hb : Below w.heap.size w ((w.alloc (.cells #[.bool a, .slice p n k, .int .i64 e] 75)).alloc (.cells #[.bool a, .slice p n k, .int .i64 e, .bool a, .slice p n k, .int .i64 e] 116)) := ((Below.refl _ _).alloc (Nat.le_refl _) _).alloc (by simp) _
  refine bodyPost_ret (v := .agg #[.bool a, .slice p n k, .int .i64 e, .bool a, .slice p n k, .int .i64 e]) (by simp [results, Tryz.results164, go_sem]) rfl ⟨_, rfl, ⟨a, p, n, k, e, a, p, n, k, e, rfl, H1.out.keep hb, H1.out.keep hb⟩, hb⟩

/-- A number in three cells. -/
def At3 (w : World) (b o : Nat) (x : Dyadic) : Prop :=
  ∃ (a : Bool) (p : Option Addr) (n k : Nat) (e : Int), w.cell? ⟨b, o, none⟩ = some (.bool a) ∧ w.cell? ⟨b, o + 1, none⟩ = some (.slice p n k) ∧ w.cell? ⟨b, o + 2, none⟩ = some (.int .i64 e) ∧ Nm w (.agg #[.bool a, .slice p n k, .int .i64 e]) x
theorem At3.lt {w : World} {b o : Nat} {x : Dyadic} (h : At3 w b o x) : b < w.heap.size := by
  obtain ⟨a, p, n, k, e, h1, _⟩ := h; exact World.block_lt_of_cell? w _ h1
theorem At3.keep {w w' : World} {b o : Nat} {x : Dyadic} (h : At3 w b o x) (hb : Below w.heap.size w w') : At3 w' b o x := by
  have hl := h.lt
  obtain ⟨a, p, n, k, e, h1, h2, h3, h4⟩ := h
  exact ⟨a, p, n, k, e, (hb.cell (p := ⟨b, o, none⟩) hl).trans h1, (hb.cell (p := ⟨b, o + 1, none⟩) hl).trans h2, (hb.cell (p := ⟨b, o + 2, none⟩) hl).trans h3, h4.keep hb⟩
/-- A slice's numbers. -/
def Nums (w : World) (b o n : Nat) (f : Nat → Dyadic) : Prop := ∀ i, i < n → At3 w b (o + i * 3) (f i)
theorem Nums.keep {w w' : World} {b o n : Nat} {f : Nat → Dyadic} (h : Nums w b o n f) (hb : Below w.heap.size w w') : Nums w' b o n f := fun i hi => (h i hi).keep hb

theorem Nm.set3 {w : World} {v : Value} {x : Dyadic} (h : Nm w v x) {g : Nat} (hd : NoDig w g) {i j k : Nat} {a : Bool} {p : Option Addr} {n c : Nat} {e : Int} :
    Nm (((w.setCell ⟨g, i, none⟩ (.bool a)).setCell ⟨g, j, none⟩ (.slice p n c)).setCell ⟨g, k, none⟩ (.int .i64 e)) v x := by
  obtain ⟨neg, lv, e, m, hv, hn, hc⟩ := h
  exact ⟨neg, lv, e, m, hv, ((hn.set hd).set hd.setBool).set hd.setBool.setSlice, hc⟩
theorem NoDig.set3 {w : World} {g : Nat} (hd : NoDig w g) {b : Nat} {i j k : Nat} {a : Bool} {p : Option Addr} {n c : Nat} {e : Int} :
    NoDig (((w.setCell ⟨b, i, none⟩ (.bool a)).setCell ⟨b, j, none⟩ (.slice p n c)).setCell ⟨b, k, none⟩ (.int .i64 e)) g := hd.setBool.setSlice.setInt
theorem below_set3 {B : Nat} {w0 w : World} (h : Below B w0 w) {g : Nat} (hg : B ≤ g) {i j k : Nat} {a b c : Value} : Below B w0 (((w.setCell ⟨g, i, none⟩ a).setCell ⟨g, j, none⟩ b).setCell ⟨g, k, none⟩ c) :=
  ((h.setCell hg _).setCell hg _).setCell hg _
theorem noDig_span (w : World) {a1 a2 : Bool} {p1 p2 : Option Addr} {n1 k1 n2 k2 : Nat} {e1 e2 : Int} {t : TypeId} : NoDig (w.alloc (.cells #[.bool a1, .slice p1 n1 k1, .int .i64 e1, .bool a2, .slice p2 n2 k2, .int .i64 e2] t)) w.heap.size := by
  intro o x
  rw [cell_of_row _ _ o _ _ _ (heap_alloc_new w _)]
  match o with
  | 0 => simp
  | 1 => simp
  | 2 => simp
  | 3 => simp
  | 4 => simp
  | 5 => simp
  | o + 6 => simp

/-- The least and the greatest of a number and of others. -/
def hullLo (x : Dyadic) (f : Nat → Dyadic) : Nat → Dyadic
  | 0 => x
  | n + 1 => if sgn (f n - hullLo x f n) < 0 then f n else hullLo x f n
def hullHi (x : Dyadic) (f : Nat → Dyadic) : Nat → Dyadic
  | 0 => x
  | n + 1 => if sgn (f n - hullHi x f n) > 0 then f n else hullHi x f n
theorem hull_box {x : Dyadic} {f : Nat → Dyadic} {A E : Nat} (hx : Box x A E) : ∀ {n : Nat}, (∀ i, i < n → Box (f i) A E) → Box (hullLo x f n) A E ∧ Box (hullHi x f n) A E
  | 0, _ => ⟨hx, hx⟩
  | n + 1, h => by
    obtain ⟨h1, h2⟩ := hull_box hx (n := n) (fun i hi => h i (by omega))
    have h3 := h n (by omega)
    simp only [hullLo, hullHi]
    constructor <;> split <;> assumption

set_option maxHeartbeats 1600000 in
theorem hull_nm (w : World) (a : Bool) (p : Option Addr) (n k : Nat) (e : Int) (b o len cap : Nat) (x : Dyadic) (f : Nat → Dyadic) (A E : Nat) (hl : len ≤ 1000) (h : Nm w (.agg #[.bool a, .slice p n k, .int .i64 e]) x) (hf : Nums w b o len f)
    (hx : Box x A E) (hfx : ∀ i, i < len → Box (f i) A E) (hAE : A + E + A + E ≤ 1000000000) (hT : Tab w) :
    Calls Tryz.prog 168 #[.agg #[.bool a, .slice p n k, .int .i64 e], .slice (some ⟨b, o, none⟩) len cap] w (Ret w fun w' v => Sp w' v (hullLo x f len) (hullHi x f len)) := by
  have H1 := Lib.hid h
  have HF := Lib.hid hf
  have HT := Lib.hid hT
  have HX := Lib.hid hx
  have HFX := Lib.hid hfx
  clear h hf hT hx hfx
  go_enter Tryz.func168, Tryz.ntmps168
  go_wp2_with fail
  obtain ⟨W, hW⟩ : ∃ W, W = (w.alloc (.cells #[.bool a, .slice p n k, .int .i64 e] 75)).alloc (.cells #[.bool false, .slice none 0 0, .int .i64 0, .bool false, .slice none 0 0, .int .i64 0] 116) := ⟨_, rfl⟩
  rw [← hW]
  have hB0 : Below w.heap.size w W := by rw [hW]; exact ((Below.refl _ _).alloc (Nat.le_refl _) _).alloc (by simp) _
  have hsz : W.heap.size = w.heap.size + 1 + 1 := by rw [hW]; simp
  refine (only_nm W _ x (H1.out.keep hB0)).mono ?_
  rintro e1 w1 ⟨v1, rfl, ⟨a1, p1, n1, k1, e1, a2, p2, n2, k2, e2, rfl, hh1, hh2⟩, hb1⟩
  have hsz1 : W.heap.size ≤ w1.heap.size := hb1.size
  have HH1 := Lib.hid hh1
  have HH2 := Lib.hid hh2
  have hgW : w.heap.size + 1 < W.heap.size := by omega
  have R0 : Hid (∀ o v, (#[Value.bool false, .slice none 0 0, .int .i64 0, .bool false, .slice none 0 0, .int .i64 0] : Array Value)[o]? = some v → w1.cell? ⟨w.heap.size + 1, o, none⟩ = some v) := by
    intro o v hv
    rw [hb1.cell (p := ⟨w.heap.size + 1, o, none⟩) hgW, hW]
    rw [show w.heap.size + 1 = (w.alloc (.cells #[.bool a, .slice p n k, .int .i64 e] 75)).heap.size by simp, cell_of_row _ _ o _ _ _ (heap_alloc_new _ _)]
    exact hv
  have RF : Hid (∀ o, w1.frozen? ⟨w.heap.size + 1, o, none⟩ = false) := by
    intro o
    rw [hb1.frozen (p := ⟨w.heap.size + 1, o, none⟩) hgW, hW]
    rw [show w.heap.size + 1 = (w.alloc (.cells #[.bool a, .slice p n k, .int .i64 e] 75)).heap.size by simp]
    exact frozen_row (heap_alloc_new _ _) o
  have RN : Hid (NoDig w1 (w.heap.size + 1)) := by
    refine NoDig.keep (w := W) ?_ hb1 hgW
    rw [hW, show w.heap.size + 1 = (w.alloc (.cells #[.bool a, .slice p n k, .int .i64 e] 75)).heap.size by simp]
    exact noDig_span _
  have HB1 := Lib.hid hb1
  have HB0 := Lib.hid hB0
  clear hh1 hh2 hW hb1 hB0
  go_wp2
  go_loopw [12] (fun vi wr => ∃ (i : Nat) (a1 : Bool) (p1 : Option Addr) (n1 k1 : Nat) (e1 : Int) (a2 : Bool) (p2 : Option Addr) (n2 k2 : Nat) (e2 : Int), i ≤ len ∧ vi = .int .i64 i ∧
      wr.cell? ⟨w1.heap.size, 0, none⟩ = some (.bool a1) ∧ wr.cell? ⟨w1.heap.size, 1, none⟩ = some (.slice p1 n1 k1) ∧ wr.cell? ⟨w1.heap.size, 2, none⟩ = some (.int .i64 e1) ∧
      wr.cell? ⟨w1.heap.size, 3, none⟩ = some (.bool a2) ∧ wr.cell? ⟨w1.heap.size, 4, none⟩ = some (.slice p2 n2 k2) ∧ wr.cell? ⟨w1.heap.size, 5, none⟩ = some (.int .i64 e2) ∧
      (∀ o, wr.frozen? ⟨w1.heap.size, o, none⟩ = false) ∧ NoDig wr w1.heap.size ∧ w1.heap.size < wr.heap.size ∧
      Nm wr (.agg #[.bool a1, .slice p1 n1 k1, .int .i64 e1]) (hullLo x f i) ∧ Nm wr (.agg #[.bool a2, .slice p2 n2 k2, .int .i64 e2]) (hullHi x f i) ∧ Below w1.heap.size w1 wr) (fun vi _ => len - (intOf vi).toNat)
  case atStart => exact ⟨0, a1, p1, n1, k1, e1, a2, p2, n2, k2, e2, by omega, rfl, by go_simp, by go_simp, by go_simp, by go_simp, by go_simp, by go_simp, fun o => by go_simp, noDig_span _, by simp, HH1.out.keep ((Below.refl _ _).alloc (Nat.le_refl _) _), HH2.out.keep ((Below.refl _ _).alloc (Nat.le_refl _) _), (Below.refl _ _).alloc (Nat.le_refl _) _⟩
  case round =>
    obtain ⟨i, a1, p1, n1, k1, e1, a2, p2, n2, k2, e2, hi, rfl, c0, c1, c2, c3, c4, c5, hfz, hnd, hlt1, hlo, hhi, hbr⟩ := hrel
    have HLO := Lib.hid hlo
    have HHI := Lib.hid hhi
    have HBR := Lib.hid hbr
    have hbw : Below w.heap.size w wr := (HB0.out.trans (HB1.out.mono (by omega))).trans (hbr.mono (by omega))
    by_cases hlt : i < len
    · obtain ⟨a3, p3, n3, k3, e3, d0, d1, d2, hx3⟩ := (HF.out.keep hbw) i hlt
      have HX3 := Lib.hid hx3
      have HBW := Lib.hid hbw
      have HND := Lib.hid hnd
      clear hlo hhi hbr hbw hnd hx3
      have hlo := HLO.out.keep ((Below.refl wr.heap.size wr).alloc (Nat.le_refl _) (.cells #[.bool a3, .slice p3 n3 k3, .int .i64 e3] 75))
      have hhi := HHI.out.keep ((Below.refl wr.heap.size wr).alloc (Nat.le_refl _) (.cells #[.bool a3, .slice p3 n3 k3, .int .i64 e3] 75))
      have hx3 := HX3.out.keep ((Below.refl wr.heap.size wr).alloc (Nat.le_refl _) (.cells #[.bool a3, .slice p3 n3 k3, .int .i64 e3] 75))
      have hba := HBW.out.alloc (HBW.out.size) (.cells #[.bool a3, .slice p3 n3 k3, .int .i64 e3] 75)
      have hbox := hull_box HX.out (n := i) (fun j hj => HFX.out j (by omega))
      have HC := Lib.hid (cmp_nm _ _ _ (f i) (hullLo x f i) A E A E hx3 hlo (HFX.out i hlt) hbox.1 hAE (HT.out.keep hba))
      have HHI2 := Lib.hid hhi
      have HLO2 := Lib.hid hlo
      have HX32 := Lib.hid hx3
      have HBA := Lib.hid hba
      have HBRA := Lib.hid (HBR.out.alloc HBR.out.size (.cells #[.bool a3, .slice p3 n3 k3, .int .i64 e3] 75))
      have HNDA : Hid (NoDig (wr.alloc (.cells #[.bool a3, .slice p3 n3 k3, .int .i64 e3] 75)) w1.heap.size) := HND.out.keep ((Below.refl wr.heap.size wr).alloc (Nat.le_refl _) _) hlt1
      clear hlo hhi hx3 hba
      go_wp2_with fail
      refine HC.out.mono ?_
      rintro e6 W6 ⟨rfl, hb6⟩
      have HX6 : Hid (Nm W6 _ _) := HX32.out.keep hb6
      have HHI6 : Hid (Nm W6 _ _) := HHI2.out.keep hb6
      have HLO6 : Hid (Nm W6 _ _) := HLO2.out.keep hb6
      have HND6 : Hid (NoDig W6 w1.heap.size) := HNDA.out.keep hb6 (by simp; omega)
      have HBW6 : Hid (Below w.heap.size w W6) := HBA.out.trans (hb6.mono HBA.out.size)
      have HBR6 : Hid (Below w1.heap.size w1 W6) := HBRA.out.trans (hb6.mono HBRA.out.size)
      have hs6 : w1.heap.size < W6.heap.size := by have := hb6.size; simp at this; omega
      have hs7 : wr.heap.size < W6.heap.size := by have := hb6.size; simp at this; omega
      obtain ⟨hcc, hff⟩ := bcell hb6
      clear hb6
      by_cases h1 : sgn (f i - hullLo x f i) < 0
      · have HLOE : Hid (hullLo x f (i + 1) = f i) := if_pos h1
        by_cases h2 : sgn (f i - hullHi x f i) > 0
        · have HHIE : Hid (hullHi x f (i + 1) = f i) := if_pos h2
          generalize sgn (f i - hullLo x f i) = s1 at h1 ⊢
          have HX7 := Lib.hid (HX6.out.set3 (i := 0) (j := 1) (k := 2) (a := a3) (p := p3) (n := n3) (c := k3) (e := e3) HND6.out)
          have HHI7 := Lib.hid (HHI6.out.set3 (i := 0) (j := 1) (k := 2) (a := a3) (p := p3) (n := n3) (c := k3) (e := e3) HND6.out)
          have HND7 := Lib.hid (HND6.out.set3 (b := w1.heap.size) (i := 0) (j := 1) (k := 2) (a := a3) (p := p3) (n := n3) (c := k3) (e := e3))
          have HBW7 : Hid (Below w.heap.size w (((W6.setCell ⟨w1.heap.size, 0, none⟩ (.bool a3)).setCell ⟨w1.heap.size, 1, none⟩ (.slice p3 n3 k3)).setCell ⟨w1.heap.size, 2, none⟩ (.int .i64 e3))) := below_set3 HBW6.out (by omega)
          have HBR7 : Hid (Below w1.heap.size w1 (((W6.setCell ⟨w1.heap.size, 0, none⟩ (.bool a3)).setCell ⟨w1.heap.size, 1, none⟩ (.slice p3 n3 k3)).setCell ⟨w1.heap.size, 2, none⟩ (.int .i64 e3))) := below_set3 HBR6.out (Nat.le_refl _)
          have HLO7 := HX7
          go_wp2_with fail
          refine (cmp_nm _ _ _ (f i) (hullHi x f i) A E A E HX7.out HHI7.out (HFX.out i hlt) hbox.2 hAE (HT.out.keep HBW7.out)).mono ?_
          rintro e7 W8 ⟨rfl, hb8⟩
          have HX8 : Hid (Nm W8 _ _) := HX7.out.keep hb8
          have HHI8 : Hid (Nm W8 _ _) := HHI7.out.keep hb8
          have HLO8 : Hid (Nm W8 _ _) := HLO7.out.keep hb8
          have hs8 : w1.heap.size < W8.heap.size := by have := hb8.size; first | (simp [World.setCell] at this; omega) | omega
          have HND8 : Hid (NoDig W8 w1.heap.size) := HND7.out.keep hb8 (by first | (simp [World.setCell]; omega) | omega)
          have HBR8 : Hid (Below w1.heap.size w1 W8) := HBR7.out.trans (hb8.mono HBR7.out.size)
          obtain ⟨hcc8, hff8⟩ := bcell hb8
          clear hb8
          generalize sgn (f i - hullHi x f i) = s2 at h2 ⊢
          go_wp2
          exact ⟨⟨i + 1, a3, p3, n3, k3, e3, a3, p3, n3, k3, e3, by omega, by go_num, (by first | (go_simp; done) | (go_simp; refine World.cell?_setCell_same _ _ _ (u := .bool a1) ?_; go_simp)), (by first | (go_simp; done) | (go_simp; refine World.cell?_setCell_same _ _ _ (u := .slice p1 n1 k1) ?_; go_simp)), (by first | (go_simp; done) | (go_simp; refine World.cell?_setCell_same _ _ _ (u := .int .i64 e1) ?_; go_simp)), (by first | (go_simp; done) | (go_simp; refine World.cell?_setCell_same _ _ _ (u := .bool a2) ?_; go_simp)), (by first | (go_simp; done) | (go_simp; refine World.cell?_setCell_same _ _ _ (u := .slice p2 n2 k2) ?_; go_simp)), (by first | (go_simp; done) | (go_simp; refine World.cell?_setCell_same _ _ _ (u := .int .i64 e2) ?_; go_simp)), fun o => by go_simp, HND8.out.set3, by simp [World.setCell]; exact hs8, by rw [HLOE.out]; exact HX8.out.set3 HND8.out, by rw [HHIE.out]; exact HX8.out.set3 HND8.out, below_set3 HBR8.out (Nat.le_refl _)⟩, by simp [intOf]; omega⟩
        · have HHIE : Hid (hullHi x f (i + 1) = hullHi x f i) := if_neg h2
          generalize sgn (f i - hullLo x f i) = s1 at h1 ⊢
          have HX7 := Lib.hid (HX6.out.set3 (i := 0) (j := 1) (k := 2) (a := a3) (p := p3) (n := n3) (c := k3) (e := e3) HND6.out)
          have HHI7 := Lib.hid (HHI6.out.set3 (i := 0) (j := 1) (k := 2) (a := a3) (p := p3) (n := n3) (c := k3) (e := e3) HND6.out)
          have HND7 := Lib.hid (HND6.out.set3 (b := w1.heap.size) (i := 0) (j := 1) (k := 2) (a := a3) (p := p3) (n := n3) (c := k3) (e := e3))
          have HBW7 : Hid (Below w.heap.size w (((W6.setCell ⟨w1.heap.size, 0, none⟩ (.bool a3)).setCell ⟨w1.heap.size, 1, none⟩ (.slice p3 n3 k3)).setCell ⟨w1.heap.size, 2, none⟩ (.int .i64 e3))) := below_set3 HBW6.out (by omega)
          have HBR7 : Hid (Below w1.heap.size w1 (((W6.setCell ⟨w1.heap.size, 0, none⟩ (.bool a3)).setCell ⟨w1.heap.size, 1, none⟩ (.slice p3 n3 k3)).setCell ⟨w1.heap.size, 2, none⟩ (.int .i64 e3))) := below_set3 HBR6.out (Nat.le_refl _)
          have HLO7 := HX7
          go_wp2_with fail
          refine (cmp_nm _ _ _ (f i) (hullHi x f i) A E A E HX7.out HHI7.out (HFX.out i hlt) hbox.2 hAE (HT.out.keep HBW7.out)).mono ?_
          rintro e7 W8 ⟨rfl, hb8⟩
          have HX8 : Hid (Nm W8 _ _) := HX7.out.keep hb8
          have HHI8 : Hid (Nm W8 _ _) := HHI7.out.keep hb8
          have HLO8 : Hid (Nm W8 _ _) := HLO7.out.keep hb8
          have hs8 : w1.heap.size < W8.heap.size := by have := hb8.size; first | (simp [World.setCell] at this; omega) | omega
          have HND8 : Hid (NoDig W8 w1.heap.size) := HND7.out.keep hb8 (by first | (simp [World.setCell]; omega) | omega)
          have HBR8 : Hid (Below w1.heap.size w1 W8) := HBR7.out.trans (hb8.mono HBR7.out.size)
          obtain ⟨hcc8, hff8⟩ := bcell hb8
          clear hb8
          generalize sgn (f i - hullHi x f i) = s2 at h2 ⊢
          go_wp2
          exact ⟨⟨i + 1, a3, p3, n3, k3, e3, a2, p2, n2, k2, e2, by omega, by go_num, (by first | (go_simp; done) | (go_simp; refine World.cell?_setCell_same _ _ _ (u := .bool a1) ?_; go_simp)), (by first | (go_simp; done) | (go_simp; refine World.cell?_setCell_same _ _ _ (u := .slice p1 n1 k1) ?_; go_simp)), (by first | (go_simp; done) | (go_simp; refine World.cell?_setCell_same _ _ _ (u := .int .i64 e1) ?_; go_simp)), (by first | (go_simp; done) | (go_simp; refine World.cell?_setCell_same _ _ _ (u := .bool a2) ?_; go_simp)), (by first | (go_simp; done) | (go_simp; refine World.cell?_setCell_same _ _ _ (u := .slice p2 n2 k2) ?_; go_simp)), (by first | (go_simp; done) | (go_simp; refine World.cell?_setCell_same _ _ _ (u := .int .i64 e2) ?_; go_simp)), fun o => by go_simp, HND8.out, hs8, by rw [HLOE.out]; exact HX8.out, by rw [HHIE.out]; exact HHI8.out, HBR8.out⟩, by simp [intOf]; omega⟩
      · have HLOE : Hid (hullLo x f (i + 1) = hullLo x f i) := if_neg h1
        by_cases h2 : sgn (f i - hullHi x f i) > 0
        · have HHIE : Hid (hullHi x f (i + 1) = f i) := if_pos h2
          generalize sgn (f i - hullLo x f i) = s1 at h1 ⊢
          have HX7 := HX6
          have HHI7 := HHI6
          have HND7 := HND6
          have HBW7 := HBW6
          have HBR7 := HBR6
          have HLO7 := HLO6
          go_wp2_with fail
          refine (cmp_nm _ _ _ (f i) (hullHi x f i) A E A E HX7.out HHI7.out (HFX.out i hlt) hbox.2 hAE (HT.out.keep HBW7.out)).mono ?_
          rintro e7 W8 ⟨rfl, hb8⟩
          have HX8 : Hid (Nm W8 _ _) := HX7.out.keep hb8
          have HHI8 : Hid (Nm W8 _ _) := HHI7.out.keep hb8
          have HLO8 : Hid (Nm W8 _ _) := HLO7.out.keep hb8
          have hs8 : w1.heap.size < W8.heap.size := by have := hb8.size; first | (simp [World.setCell] at this; omega) | omega
          have HND8 : Hid (NoDig W8 w1.heap.size) := HND7.out.keep hb8 (by first | (simp [World.setCell]; omega) | omega)
          have HBR8 : Hid (Below w1.heap.size w1 W8) := HBR7.out.trans (hb8.mono HBR7.out.size)
          obtain ⟨hcc8, hff8⟩ := bcell hb8
          clear hb8
          generalize sgn (f i - hullHi x f i) = s2 at h2 ⊢
          go_wp2
          exact ⟨⟨i + 1, a1, p1, n1, k1, e1, a3, p3, n3, k3, e3, by omega, by go_num, (by first | (go_simp; done) | (go_simp; refine World.cell?_setCell_same _ _ _ (u := .bool a1) ?_; go_simp)), (by first | (go_simp; done) | (go_simp; refine World.cell?_setCell_same _ _ _ (u := .slice p1 n1 k1) ?_; go_simp)), (by first | (go_simp; done) | (go_simp; refine World.cell?_setCell_same _ _ _ (u := .int .i64 e1) ?_; go_simp)), (by first | (go_simp; done) | (go_simp; refine World.cell?_setCell_same _ _ _ (u := .bool a2) ?_; go_simp)), (by first | (go_simp; done) | (go_simp; refine World.cell?_setCell_same _ _ _ (u := .slice p2 n2 k2) ?_; go_simp)), (by first | (go_simp; done) | (go_simp; refine World.cell?_setCell_same _ _ _ (u := .int .i64 e2) ?_; go_simp)), fun o => by go_simp, HND8.out.set3, by simp [World.setCell]; exact hs8, by rw [HLOE.out]; exact HLO8.out.set3 HND8.out, by rw [HHIE.out]; exact HX8.out.set3 HND8.out, below_set3 HBR8.out (Nat.le_refl _)⟩, by simp [intOf]; omega⟩
        · have HHIE : Hid (hullHi x f (i + 1) = hullHi x f i) := if_neg h2
          generalize sgn (f i - hullLo x f i) = s1 at h1 ⊢
          have HX7 := HX6
          have HHI7 := HHI6
          have HND7 := HND6
          have HBW7 := HBW6
          have HBR7 := HBR6
          have HLO7 := HLO6
          go_wp2_with fail
          refine (cmp_nm _ _ _ (f i) (hullHi x f i) A E A E HX7.out HHI7.out (HFX.out i hlt) hbox.2 hAE (HT.out.keep HBW7.out)).mono ?_
          rintro e7 W8 ⟨rfl, hb8⟩
          have HX8 : Hid (Nm W8 _ _) := HX7.out.keep hb8
          have HHI8 : Hid (Nm W8 _ _) := HHI7.out.keep hb8
          have HLO8 : Hid (Nm W8 _ _) := HLO7.out.keep hb8
          have hs8 : w1.heap.size < W8.heap.size := by have := hb8.size; first | (simp [World.setCell] at this; omega) | omega
          have HND8 : Hid (NoDig W8 w1.heap.size) := HND7.out.keep hb8 (by first | (simp [World.setCell]; omega) | omega)
          have HBR8 : Hid (Below w1.heap.size w1 W8) := HBR7.out.trans (hb8.mono HBR7.out.size)
          obtain ⟨hcc8, hff8⟩ := bcell hb8
          clear hb8
          generalize sgn (f i - hullHi x f i) = s2 at h2 ⊢
          go_wp2
          exact ⟨⟨i + 1, a1, p1, n1, k1, e1, a2, p2, n2, k2, e2, by omega, by go_num, (by first | (go_simp; done) | (go_simp; refine World.cell?_setCell_same _ _ _ (u := .bool a1) ?_; go_simp)), (by first | (go_simp; done) | (go_simp; refine World.cell?_setCell_same _ _ _ (u := .slice p1 n1 k1) ?_; go_simp)), (by first | (go_simp; done) | (go_simp; refine World.cell?_setCell_same _ _ _ (u := .int .i64 e1) ?_; go_simp)), (by first | (go_simp; done) | (go_simp; refine World.cell?_setCell_same _ _ _ (u := .bool a2) ?_; go_simp)), (by first | (go_simp; done) | (go_simp; refine World.cell?_setCell_same _ _ _ (u := .slice p2 n2 k2) ?_; go_simp)), (by first | (go_simp; done) | (go_simp; refine World.cell?_setCell_same _ _ _ (u := .int .i64 e2) ?_; go_simp)), fun o => by go_simp, HND8.out, hs8, by rw [HLOE.out]; exact HLO8.out, by rw [HHIE.out]; exact HHI8.out, HBR8.out⟩, by simp [intOf]; omega⟩
    · obtain rfl : i = len := by omega
      clear hlo hhi hbr
      have hsw : w.heap.size + 1 < wr.heap.size := by omega
      have hcr := HBR.out
      have r0 : wr.cell? ⟨w.heap.size + 1, 0, none⟩ = some (.bool false) := (hcr.cell (p := ⟨w.heap.size + 1, 0, none⟩) (by show w.heap.size + 1 < _; omega)).trans (R0.out 0 _ rfl)
      have r1 : wr.cell? ⟨w.heap.size + 1, 1, none⟩ = some (.slice none 0 0) := (hcr.cell (p := ⟨w.heap.size + 1, 1, none⟩) (by show w.heap.size + 1 < _; omega)).trans (R0.out 1 _ rfl)
      have r2 : wr.cell? ⟨w.heap.size + 1, 2, none⟩ = some (.int .i64 0) := (hcr.cell (p := ⟨w.heap.size + 1, 2, none⟩) (by show w.heap.size + 1 < _; omega)).trans (R0.out 2 _ rfl)
      have r3 : wr.cell? ⟨w.heap.size + 1, 3, none⟩ = some (.bool false) := (hcr.cell (p := ⟨w.heap.size + 1, 3, none⟩) (by show w.heap.size + 1 < _; omega)).trans (R0.out 3 _ rfl)
      have r4 : wr.cell? ⟨w.heap.size + 1, 4, none⟩ = some (.slice none 0 0) := (hcr.cell (p := ⟨w.heap.size + 1, 4, none⟩) (by show w.heap.size + 1 < _; omega)).trans (R0.out 4 _ rfl)
      have r5 : wr.cell? ⟨w.heap.size + 1, 5, none⟩ = some (.int .i64 0) := (hcr.cell (p := ⟨w.heap.size + 1, 5, none⟩) (by show w.heap.size + 1 < _; omega)).trans (R0.out 5 _ rfl)
      have rf : ∀ o, wr.frozen? ⟨w.heap.size + 1, o, none⟩ = false := fun o => (hcr.frozen (p := ⟨w.heap.size + 1, o, none⟩) (by show w.heap.size + 1 < _; omega)).trans (RF.out o)
      have HNR : Hid (NoDig wr (w.heap.size + 1)) := RN.out.keep hcr (by omega)
      have HBWR := Lib.hid hbw
      clear hcr hbw hnd
      go_wp2
      refine bodyPost_ret (v := .agg #[.bool a1, .slice p1 n1 k1, .int .i64 e1, .bool a2, .slice p2 n2 k2, .int .i64 e2]) (by simp [results, Tryz.results168, go_sem, r0, r1, r2, r3, r4, r5]) rfl ⟨_, rfl, ⟨a1, p1, n1, k1, e1, a2, p2, n2, k2, e2, rfl, (HLO.out.set3 HNR.out).set3 HNR.out.set3, (HHI.out.set3 HNR.out).set3 HNR.out.set3⟩, below_set3 (below_set3 HBWR.out (by omega)) (by omega)⟩
end Go.Proofs.YtlphlbgbbblnpaaGreatDoor.Dy
-- Span2: WALKS: spans: rounded.
namespace Go.Proofs.YtlphlbgbbblnpaaGreatDoor.Dy
open Go.RowKit

theorem Sp.set6 {w : World} {v : Value} {x y : Dyadic} (h : Sp w v x y) {g : Nat} (hd : NoDig w g) {a1 a2 : Bool} {p1 p2 : Option Addr} {n1 k1 n2 k2 : Nat} {e1 e2 : Int} {i1 i2 i3 i4 i5 i6 : Nat} :
    Sp ((((((w.setCell ⟨g, i1, none⟩ (.bool a1)).setCell ⟨g, i2, none⟩ (.slice p1 n1 k1)).setCell ⟨g, i3, none⟩ (.int .i64 e1)).setCell ⟨g, i4, none⟩ (.bool a2)).setCell ⟨g, i5, none⟩ (.slice p2 n2 k2)).setCell ⟨g, i6, none⟩ (.int .i64 e2)) v x y := by
  obtain ⟨b1, q1, l1, c1, f1, b2, q2, l2, c2, f2, hv, h1, h2⟩ := h
  exact ⟨b1, q1, l1, c1, f1, b2, q2, l2, c2, f2, hv, (h1.set3 hd).set3 hd.set3, (h2.set3 hd).set3 hd.set3⟩

set_option maxHeartbeats 3200000 in
theorem rounded_exact (w : World) (neg : Bool) (p : Option Addr) (n c m : Nat) (k : Int) (hv : Nt w (.slice p n c) m) (hL : Len m 200000000) (h0 : 0 ≤ k) (h1 : k ≤ 256) (hT : Tab w) :
    Calls Tryz.prog 142 #[.bool neg, .slice p n c, .bool true, .int .i64 k] w (Ret w fun w' v => Sp w' v (mk (sg neg m) (-k)) (mk (sg neg m) (-k))) := by
  have HV := Lib.hid hv
  have HL := Lib.hid hL
  have HT := Lib.hid hT
  clear hv hL hT
  go_enter Tryz.func142, Tryz.ntmps142
  go_wp2_with fail
  obtain ⟨W, hW⟩ : ∃ W, W = w.alloc (.cells #[.bool false, .slice none 0 0, .int .i64 0, .bool false, .slice none 0 0, .int .i64 0] 116) := ⟨_, rfl⟩
  rw [← hW]
  have hB0 : Below w.heap.size w W := by rw [hW]; exact (Below.refl _ _).alloc (Nat.le_refl _) _
  have hsz : W.heap.size = w.heap.size + 1 := by rw [hW]; simp
  have hND0 : NoDig W w.heap.size := by rw [hW]; exact noDig_span _
  have r0 : W.cell? ⟨w.heap.size, 0, none⟩ = some (.bool false) := by rw [hW]; go_simp
  have r1 : W.cell? ⟨w.heap.size, 1, none⟩ = some (.slice none 0 0) := by rw [hW]; go_simp
  have r2 : W.cell? ⟨w.heap.size, 2, none⟩ = some (.int .i64 0) := by rw [hW]; go_simp
  have r3 : W.cell? ⟨w.heap.size, 3, none⟩ = some (.bool false) := by rw [hW]; go_simp
  have r4 : W.cell? ⟨w.heap.size, 4, none⟩ = some (.slice none 0 0) := by rw [hW]; go_simp
  have r5 : W.cell? ⟨w.heap.size, 5, none⟩ = some (.int .i64 0) := by rw [hW]; go_simp
  have rf : ∀ o, W.frozen? ⟨w.heap.size, o, none⟩ = false := fun o => by rw [hW]; exact frozen_row (heap_alloc_new _ _) o
  refine (build_nm W neg (.slice p n c) m (-k) (HV.out.keep hB0) HL.out (by omega) (by omega) (HT.out.keep hB0)).mono ?_
  rintro e1 W1 ⟨v1, rfl, hv1, hb1⟩
  obtain ⟨a1, p1, n1, k1, e1, m1, rfl, hn1, hc1⟩ := hv1.fields
  have H1 := Lib.hid hv1
  obtain ⟨hcc, hff⟩ := bcell hb1
  have hz : w.heap.size < W.heap.size := by omega
  have hs1 : W.heap.size ≤ W1.heap.size := hb1.size
  have HB1 : Hid (Below w.heap.size w W1) := hB0.trans (hb1.mono (by omega))
  have HND : Hid (NoDig W1 w.heap.size) := hND0.keep hb1 hz
  clear hW hB0 hb1 hv1 hn1 hc1 hND0
  go_wp2_with fail
  refine (only_nm _ _ (mk (sg neg m) (-k)) (H1.out.keep ((Below.refl _ _).alloc (Nat.le_refl _) _))).mono ?_
  rintro e2 W2 ⟨v2, rfl, hv2, hb2⟩
  obtain ⟨b1, q1, l1, c1, f1, b2, q2, l2, c2, f2, rfl, hx, hy⟩ := hv2
  have HX := Lib.hid hx
  have HY := Lib.hid hy
  obtain ⟨hcc2, hff2⟩ := bcell hb2
  have hz2 : w.heap.size < W1.heap.size + 1 := by omega
  have hz3 : w.heap.size < W1.heap.size := by omega
  have HB2 : Hid (Below w.heap.size w W2) := (HB1.out.alloc HB1.out.size _).trans (hb2.mono (by simp; omega))
  have HND2 : Hid (NoDig W2 w.heap.size) := (HND.out.keep ((Below.refl W1.heap.size W1).alloc (Nat.le_refl _) _) hz3).keep hb2 (by simp; omega)
  clear hb2 hx hy
  go_wp2
  refine bodyPost_ret (v := .agg #[.bool b1, .slice q1 l1 c1, .int .i64 f1, .bool b2, .slice q2 l2 c2, .int .i64 f2]) (by simp [results, Tryz.results142, go_sem, hcc, hcc2, hz, hz2, hz3, r0, r1, r2, r3, r4, r5]) rfl ⟨_, rfl, ⟨b1, q1, l1, c1, f1, b2, q2, l2, c2, f2, rfl, (HX.out.set3 HND2.out).set3 HND2.out.set3, (HY.out.set3 HND2.out).set3 HND2.out.set3⟩, below_set3 (below_set3 HB2.out (Nat.le_refl _)) (Nat.le_refl _)⟩

theorem len_pow {m L : Nat} (h : Len m L) : m < 2 ^ (64 * L) := by
  unfold Len at h
  rw [Nat.pow_mul]; exact h
theorem box_mk {neg : Bool} {m A : Nat} {k : Int} (hm : m < 2 ^ A) (hk : 0 ≤ k) : Box (mk (sg neg m) (-k)) A k.toNat :=
  ⟨sg neg m, by rw [Int.toNat_of_nonneg hk], by rw [sg_abs]; exact hm⟩

theorem box_len {neg : Bool} {m L : Nat} {k : Int} (h : Len m L) (hk : 0 ≤ k) : Box (mk (sg neg m) (-k)) (64 * L + 1) k.toNat ∧ Box (mk (sg neg (m + 1)) (-k)) (64 * L + 1) k.toNat := by
  have hp := len_pow h
  have h2 : m + 1 < 2 ^ (64 * L + 1) := by rw [Nat.pow_succ]; omega
  exact ⟨box_mk (by omega) hk, box_mk h2 hk⟩
theorem len_succ {m L L' : Nat} (h : Len m L) (hL : L + 1 ≤ L') : Len (m + 1) L' := by
  have hp := len_pow h
  refine len_two (A := 64 * L + 1) (by rw [Nat.pow_succ]; omega) (by omega)
theorem nums_one {w : World} {a : Bool} {p : Option Addr} {n k : Nat} {e : Int} {x : Dyadic} {t : TypeId} (h : Nm w (.agg #[.bool a, .slice p n k, .int .i64 e]) x) :
    Nums (w.alloc (.cells #[.bool a, .slice p n k, .int .i64 e] t)) w.heap.size 0 1 (fun _ => x) := by
  intro i hi
  obtain rfl : i = 0 := by omega
  show At3 _ _ 0 x
  refine ⟨a, p, n, k, e, ?_, ?_, ?_, h.keep ((Below.refl _ _).alloc (Nat.le_refl _) _)⟩ <;> (rw [cell_of_row _ _ _ _ _ _ (heap_alloc_new w _)]; rfl)
theorem three_keep {W W' : World} {b : Nat} {x y z : Value} (h : W.cell? ⟨b, 0, none⟩ = some x ∧ W.cell? ⟨b, 1, none⟩ = some y ∧ W.cell? ⟨b, 2, none⟩ = some z) (hb : Below W.heap.size W W') (hl : b < W.heap.size) :
    W'.cell? ⟨b, 0, none⟩ = some x ∧ W'.cell? ⟨b, 1, none⟩ = some y ∧ W'.cell? ⟨b, 2, none⟩ = some z :=
  ⟨(hb.cell (p := ⟨b, 0, none⟩) hl).trans h.1, (hb.cell (p := ⟨b, 1, none⟩) hl).trans h.2.1, (hb.cell (p := ⟨b, 2, none⟩) hl).trans h.2.2⟩

theorem hull_one (w : World) (a1 : Bool) (p1 : Option Addr) (n1 k1 : Nat) (e1 : Int) (a2 : Bool) (p2 : Option Addr) (n2 k2 : Nat) (e2 : Int) (x y : Dyadic) (A E : Nat)
    (h1 : Nm w (.agg #[.bool a1, .slice p1 n1 k1, .int .i64 e1]) x) (h2 : Nm w (.agg #[.bool a2, .slice p2 n2 k2, .int .i64 e2]) y) (hx : Box x A E) (hy : Box y A E) (hAE : A + E + A + E ≤ 1000000000) (hT : Tab w) :
    Calls Tryz.prog 168 #[.agg #[.bool a1, .slice p1 n1 k1, .int .i64 e1], .slice (some ⟨w.heap.size, 0, none⟩) 1 1] (w.alloc (.cells #[.bool a2, .slice p2 n2 k2, .int .i64 e2] 75))
      (Ret (w.alloc (.cells #[.bool a2, .slice p2 n2 k2, .int .i64 e2] 75)) fun w' v => Sp w' v (hullLo x (fun _ => y) 1) (hullHi x (fun _ => y) 1)) :=
  have hb := (Below.refl w.heap.size w).alloc (Nat.le_refl _) (.cells #[.bool a2, .slice p2 n2 k2, .int .i64 e2] 75)
  hull_nm _ a1 p1 n1 k1 e1 w.heap.size 0 1 1 x (fun _ => y) A E (by omega) (h1.keep hb) (nums_one h2) hx (fun _ _ => hy) hAE (hT.keep hb)

theorem three_set6 {W W' : World} {b g : Nat} {x y z : Value} (h : W.cell? ⟨b, 0, none⟩ = some x ∧ W.cell? ⟨b, 1, none⟩ = some y ∧ W.cell? ⟨b, 2, none⟩ = some z) (hb : Below W.heap.size W W') (hl : b < W.heap.size) (hg : g < b) {v1 v2 v3 v4 v5 v6 : Value} :
    ((((((W'.setCell ⟨g, 0, none⟩ v1).setCell ⟨g, 1, none⟩ v2).setCell ⟨g, 2, none⟩ v3).setCell ⟨g, 3, none⟩ v4).setCell ⟨g, 4, none⟩ v5).setCell ⟨g, 5, none⟩ v6).cell? ⟨b, 0, none⟩ = some x ∧
    ((((((W'.setCell ⟨g, 0, none⟩ v1).setCell ⟨g, 1, none⟩ v2).setCell ⟨g, 2, none⟩ v3).setCell ⟨g, 3, none⟩ v4).setCell ⟨g, 4, none⟩ v5).setCell ⟨g, 5, none⟩ v6).cell? ⟨b, 1, none⟩ = some y ∧
    ((((((W'.setCell ⟨g, 0, none⟩ v1).setCell ⟨g, 1, none⟩ v2).setCell ⟨g, 2, none⟩ v3).setCell ⟨g, 3, none⟩ v4).setCell ⟨g, 4, none⟩ v5).setCell ⟨g, 5, none⟩ v6).cell? ⟨b, 2, none⟩ = some z := by
  have h' := three_keep h hb hl
  have hne : ∀ (W0 : World) (i j : Nat) (v : Value), (W0.setCell ⟨g, i, none⟩ v).cell? ⟨b, j, none⟩ = W0.cell? ⟨b, j, none⟩ := fun W0 i j v => World.cell?_setCell_far W0 ⟨g, i, none⟩ ⟨b, j, none⟩ v (by show g ≠ b; omega)
  simp only [hne]
  exact h'

set_option maxHeartbeats 3200000 in
theorem rounded_not (w : World) (neg : Bool) (p : Option Addr) (n c m L : Nat) (k : Int) (hv : Nt w (.slice p n c) m) (hL : Len m L) (hLb : L ≤ 1000000) (h0 : 0 ≤ k) (h1 : k ≤ 256) (hT : Tab w) :
    Calls Tryz.prog 142 #[.bool neg, .slice p n c, .bool false, .int .i64 k] w (Ret w fun w' v => Sp w' v (hullLo (mk (sg neg m) (-k)) (fun _ => mk (sg neg (m + 1)) (-k)) 1) (hullHi (mk (sg neg m) (-k)) (fun _ => mk (sg neg (m + 1)) (-k)) 1)) := by
  have HBX := Lib.hid (box_len (neg := neg) hL h0)
  have hL1 := len_succ hL (L' := 200000000) (by omega)
  have HV := Lib.hid hv
  have HL : Hid (Len m L ∧ Len (m + 1) 200000000) := ⟨hL, hL1⟩
  have HO : Hid (Len 1 999999999999) := Len.mono (L := 1) (show 1 < base ^ 1 by decide) (by omega)
  have HT := Lib.hid hT
  clear hv hL hT hL1
  go_enter Tryz.func142, Tryz.ntmps142
  go_wp2_with fail
  obtain ⟨W, hW⟩ : ∃ W, W = w.alloc (.cells #[.bool false, .slice none 0 0, .int .i64 0, .bool false, .slice none 0 0, .int .i64 0] 116) := ⟨_, rfl⟩
  rw [← hW]
  have hB0 : Below w.heap.size w W := by rw [hW]; exact (Below.refl _ _).alloc (Nat.le_refl _) _
  have hsz : W.heap.size = w.heap.size + 1 := by rw [hW]; simp
  have hND0 : NoDig W w.heap.size := by rw [hW]; exact noDig_span _
  have r0 : W.cell? ⟨w.heap.size, 0, none⟩ = some (.bool false) := by rw [hW]; go_simp
  have r1 : W.cell? ⟨w.heap.size, 1, none⟩ = some (.slice none 0 0) := by rw [hW]; go_simp
  have r2 : W.cell? ⟨w.heap.size, 2, none⟩ = some (.int .i64 0) := by rw [hW]; go_simp
  have r3 : W.cell? ⟨w.heap.size, 3, none⟩ = some (.bool false) := by rw [hW]; go_simp
  have r4 : W.cell? ⟨w.heap.size, 4, none⟩ = some (.slice none 0 0) := by rw [hW]; go_simp
  have r5 : W.cell? ⟨w.heap.size, 5, none⟩ = some (.int .i64 0) := by rw [hW]; go_simp
  have rf : ∀ o, W.frozen? ⟨w.heap.size, o, none⟩ = false := fun o => by rw [hW]; exact frozen_row (heap_alloc_new _ _) o
  refine (build_nm W neg (.slice p n c) m (-k) (HV.out.keep hB0) (HL.out.1.mono (by omega)) (by omega) (by omega) (HT.out.keep hB0)).mono ?_
  rintro e1 W1 ⟨v1, rfl, hv1, hb1⟩
  obtain ⟨a1, p1, n1, k1, e1, m1, rfl, hn1, hc1⟩ := hv1.fields
  obtain ⟨hcc, hff⟩ := bcell hb1
  have hz : w.heap.size < W.heap.size := by omega
  have hs1 : W.heap.size ≤ W1.heap.size := hb1.size
  have hz3 : w.heap.size < W1.heap.size := by omega
  have q0 : W1.cell? ⟨w.heap.size, 0, none⟩ = some (.bool false) := (hcc _ _ hz).trans r0
  have q1 : W1.cell? ⟨w.heap.size, 1, none⟩ = some (.slice none 0 0) := (hcc _ _ hz).trans r1
  have q2 : W1.cell? ⟨w.heap.size, 2, none⟩ = some (.int .i64 0) := (hcc _ _ hz).trans r2
  have q3 : W1.cell? ⟨w.heap.size, 3, none⟩ = some (.bool false) := (hcc _ _ hz).trans r3
  have q4 : W1.cell? ⟨w.heap.size, 4, none⟩ = some (.slice none 0 0) := (hcc _ _ hz).trans r4
  have q5 : W1.cell? ⟨w.heap.size, 5, none⟩ = some (.int .i64 0) := (hcc _ _ hz).trans r5
  have qf : ∀ o, W1.frozen? ⟨w.heap.size, o, none⟩ = false := fun o => (hff _ _ hz).trans (rf o)
  have HB1 : Hid (Below w.heap.size w W1) := hB0.trans (hb1.mono (by omega))
  have HND : Hid (NoDig W1 w.heap.size) := hND0.keep hb1 hz
  have H1 := Lib.hid hv1
  clear hW hB0 hb1 hv1 hn1 hc1 hND0 r0 r1 r2 r3 r4 r5 rf hcc hff
  go_wp2
  obtain ⟨Y, hY⟩ : ∃ Y, Y = W1.alloc (.cells #[.bool a1, .slice p1 n1 k1, .int .i64 e1] 75) := ⟨_, rfl⟩
  rw [← hY]
  have hYb : Below W1.heap.size W1 Y := by rw [hY]; exact (Below.refl _ _).alloc (Nat.le_refl _) _
  have hYs : Y.heap.size = W1.heap.size + 1 := by rw [hY]; simp
  have HBY : Hid (Below w.heap.size w Y) := HB1.out.trans (hYb.mono (by omega))
  have H1Y : Hid (Nm Y (.agg #[.bool a1, .slice p1 n1 k1, .int .i64 e1]) (mk (sg neg m) (-k))) := H1.out.keep hYb
  have HNY : Hid (NoDig Y w.heap.size) := HND.out.keep hYb hz3
  have hS0 : Y.cell? ⟨W1.heap.size, 0, none⟩ = some (.bool a1) ∧ Y.cell? ⟨W1.heap.size, 1, none⟩ = some (.slice p1 n1 k1) ∧ Y.cell? ⟨W1.heap.size, 2, none⟩ = some (.int .i64 e1) := by
    rw [hY]; exact ⟨by go_simp, by go_simp, by go_simp⟩
  have y0 : Y.cell? ⟨w.heap.size, 0, none⟩ = some (.bool false) := (hYb.cell (p := ⟨w.heap.size, 0, none⟩) hz3).trans q0
  have y1 : Y.cell? ⟨w.heap.size, 1, none⟩ = some (.slice none 0 0) := (hYb.cell (p := ⟨w.heap.size, 1, none⟩) hz3).trans q1
  have y2 : Y.cell? ⟨w.heap.size, 2, none⟩ = some (.int .i64 0) := (hYb.cell (p := ⟨w.heap.size, 2, none⟩) hz3).trans q2
  have y3 : Y.cell? ⟨w.heap.size, 3, none⟩ = some (.bool false) := (hYb.cell (p := ⟨w.heap.size, 3, none⟩) hz3).trans q3
  have y4 : Y.cell? ⟨w.heap.size, 4, none⟩ = some (.slice none 0 0) := (hYb.cell (p := ⟨w.heap.size, 4, none⟩) hz3).trans q4
  have y5 : Y.cell? ⟨w.heap.size, 5, none⟩ = some (.int .i64 0) := (hYb.cell (p := ⟨w.heap.size, 5, none⟩) hz3).trans q5
  have yf : ∀ o, Y.frozen? ⟨w.heap.size, o, none⟩ = false := fun o => (hYb.frozen (p := ⟨w.heap.size, o, none⟩) hz3).trans (qf o)
  have hlt : W1.heap.size < Y.heap.size := by omega
  have hzY : w.heap.size < Y.heap.size := by omega
  have hnk : IntKind.i64.wrap (-k) = -k := IntWalk.i64_in _ (by omega)
  have hNat := natural_nt Y.drew 1 (by decide)
  rw [show ((1 : Nat) : Int) = 1 from rfl] at hNat
  have HC := Lib.hid hNat
  have hSd := three_keep hS0 (Below.refl Y.heap.size Y).drew hlt
  have HVY : Hid (Nt Y (.slice p n c) m) := HV.out.keep HBY.out
  clear hY hYb q0 q1 q2 q3 q4 q5 qf hNat
  go_region_held3 (fun W' => W'.cell? ⟨W1.heap.size, 0, none⟩ = some (.bool a1) ∧ W'.cell? ⟨W1.heap.size, 1, none⟩ = some (.slice p1 n1 k1) ∧ W'.cell? ⟨W1.heap.size, 2, none⟩ = some (.int .i64 e1))
    (first | (with_reducible assumption) | (with_reducible exact three_set6 hS0 hB6 hlt hz3))
    (first
      | (go_at_call 101; refine HC.out.mono ?_; rintro e3 W3 ⟨v3, rfl, hv3, hb3⟩; (have hB3 : Below Y.heap.size Y W3 := (Below.refl _ _).drew.trans hb3); (have hS3 := three_keep hS0 hB3 hlt))
      | (go_at_call 120; refine (plus_nt _ (.slice p n c) v3 m 1 (HVY.out.keep hB3) hv3 (HL.out.1.mono (by omega)) HO.out).mono ?_; rintro e4 W4 ⟨v4, rfl, hv4, hb4⟩; (have hB4 : Below Y.heap.size Y W4 := hB3.trans (hb4.mono hB3.size)); (have hS4 := three_keep hS0 hB4 hlt))
      | (go_at_call 70; refine (build_nm _ neg v4 (m + 1) (-k) hv4 HL.out.2 (by omega) (by omega) (HT.out.keep (HBY.out.trans (hB4.mono (by omega))))).mono ?_; rintro e5 W5 ⟨v5, rfl, hv5, hb5⟩; (have hB5 : Below Y.heap.size Y W5 := hB4.trans (hb5.mono hB4.size)); (have hS5 := three_keep hS0 hB5 hlt); obtain ⟨a5, p5, n5, k5, e5, m5, rfl, hn5, hc5⟩ := hv5.fields; (have hB5a : Below Y.heap.size Y (W5.alloc (.cells #[.bool a5, .slice p5 n5 k5, .int .i64 e5] 75)) := hB5.alloc hB5.size _); (have hS5a := three_keep hS0 hB5a hlt))
      | (go_at_call 168; refine (hull_one W5 a1 p1 n1 k1 e1 a5 p5 n5 k5 e5 _ _ (64 * L + 1) k.toNat (H1Y.out.keep hB5) hv5 HBX.out.1 HBX.out.2 (by omega) (HT.out.keep (HBY.out.trans (hB5.mono (by omega))))).mono ?_; rintro e6 W6 ⟨v6, rfl, hv6, hb6⟩; (have hB6 : Below Y.heap.size Y W6 := hB5a.trans (hb6.mono hB5a.size)); (have hS6 := three_keep hS0 hB6 hlt); obtain ⟨g1, t1, l1, c1, f1, g2, t2, l2, c2, f2, rfl, hx, hy⟩ := hv6; (have z0 := (hB6.cell (p := ⟨w.heap.size, 0, none⟩) hzY).trans y0); (have z1 := (hB6.cell (p := ⟨w.heap.size, 1, none⟩) hzY).trans y1); (have z2 := (hB6.cell (p := ⟨w.heap.size, 2, none⟩) hzY).trans y2); (have z3 := (hB6.cell (p := ⟨w.heap.size, 3, none⟩) hzY).trans y3); (have z4 := (hB6.cell (p := ⟨w.heap.size, 4, none⟩) hzY).trans y4); (have z5 := (hB6.cell (p := ⟨w.heap.size, 5, none⟩) hzY).trans y5); (have zf : ∀ o, W6.frozen? ⟨w.heap.size, o, none⟩ = false := fun o => (hB6.frozen (p := ⟨w.heap.size, o, none⟩) hzY).trans (yf o))))
  have HX := Lib.hid hx
  have HY := Lib.hid hy
  have HB6 : Hid (Below w.heap.size w W6) := HBY.out.trans (hB6.mono (by omega))
  have HND6 : Hid (NoDig W6 w.heap.size) := HNY.out.keep hB6 hzY
  clear hx hy hB6 hb6 hB5a hB5 hB4 hB3 hb5 hb4 hb3
  go_wp2
  refine bodyPost_ret (v := .agg #[.bool g1, .slice t1 l1 c1, .int .i64 f1, .bool g2, .slice t2 l2 c2, .int .i64 f2]) (by simp [results, Tryz.results142, go_sem, z0, z1, z2, z3, z4, z5]) rfl ⟨_, rfl, ⟨g1, t1, l1, c1, f1, g2, t2, l2, c2, f2, rfl, (HX.out.set3 HND6.out).set3 HND6.out.set3, (HY.out.set3 HND6.out).set3 HND6.out.set3⟩, below_set3 (below_set3 HB6.out (Nat.le_refl _)) (Nat.le_refl _)⟩
end Go.Proofs.YtlphlbgbbblnpaaGreatDoor.Dy
-- Span3: WALKS: spans: Quo, for a divisor of one digit.
namespace Go.Proofs.YtlphlbgbbblnpaaGreatDoor.Dy
open Go.RowKit

/-- What 'rounded' tells: its ends. -/
def rLo (neg ex : Bool) (m : Nat) (k : Int) : Dyadic := if ex then mk (sg neg m) (-k) else hullLo (mk (sg neg m) (-k)) (fun _ => mk (sg neg (m + 1)) (-k)) 1
def rHi (neg ex : Bool) (m : Nat) (k : Int) : Dyadic := if ex then mk (sg neg m) (-k) else hullHi (mk (sg neg m) (-k)) (fun _ => mk (sg neg (m + 1)) (-k)) 1
theorem rounded_nm (w : World) (neg : Bool) (p : Option Addr) (n c m L : Nat) (k : Int) (ex : Bool) (hv : Nt w (.slice p n c) m) (hL : Len m L) (hLb : L ≤ 1000000) (h0 : 0 ≤ k) (h1 : k ≤ 256) (hT : Tab w) :
    Calls Tryz.prog 142 #[.bool neg, .slice p n c, .bool ex, .int .i64 k] w (Ret w fun w' v => Sp w' v (rLo neg ex m k) (rHi neg ex m k)) := by
  cases ex
  · exact rounded_not w neg p n c m L k hv hL hLb h0 h1 hT
  · exact rounded_exact w neg p n c m k hv (hL.mono (by omega)) h0 h1 hT

theorem two_keep {W W' : World} {b c o1 o2 : Nat} {x y : Value} (h : W.cell? ⟨b, o1, none⟩ = some x ∧ W.cell? ⟨c, o2, none⟩ = some y) (hb : Below W.heap.size W W') (hl : b < W.heap.size) (hl2 : c < W.heap.size) :
    W'.cell? ⟨b, o1, none⟩ = some x ∧ W'.cell? ⟨c, o2, none⟩ = some y :=
  ⟨(hb.cell (p := ⟨b, o1, none⟩) hl).trans h.1, (hb.cell (p := ⟨c, o2, none⟩) hl2).trans h.2⟩

set_option maxRecDepth 8000 in
set_option maxHeartbeats 3200000 in
theorem quo_main (w : World) (a1 a2 : Bool) (p1 p2 : Option Addr) (n1 k1 n2 k2 : Nat) (e1 e2 k up : Int) (m1 m2 s1 s2 L : Nat) (hn0 : n2 ≠ 0)
    (hup : e1 - e2 + k = up) (hx1 : max up 0 = (s1 : Int)) (hx2 : max (-up) 0 = (s2 : Int)) (h0 : 0 ≤ k) (h1 : k ≤ 256)
    (hn1 : Nt w (.slice p1 n1 k1) m1) (hn2 : Nt w (.slice p2 n2 k2) m2) (hL1 : Len m1 200000000) (hL2 : Len m2 200000000) (hM1 : Len (m1 * 2 ^ s1) L) (hLb : L ≤ 1000000) (hM2 : Len (m2 * 2 ^ s2) 1) (hm0 : m2 * 2 ^ s2 ≠ 0)
    (hs1 : s1 ≤ 10000000000000) (hs2 : s2 ≤ 10000000000000) (hb11 : -40000000000 ≤ e1) (hb12 : e1 ≤ 40000000000) (hb21 : -40000000000 ≤ e2) (hb22 : e2 ≤ 40000000000) (hT : Tab w) :
    Calls Tryz.prog 100 #[.agg #[.bool a1, .slice p1 n1 k1, .int .i64 e1], .agg #[.bool a2, .slice p2 n2 k2, .int .i64 e2], .int .i64 k] w
      (Ret2 w fun w' v e => e = .int .i64 0 ∧ Sp w' v (rLo (a1 != a2) (decide (m1 * 2 ^ s1 % (m2 * 2 ^ s2) = 0)) (m1 * 2 ^ s1 / (m2 * 2 ^ s2)) k) (rHi (a1 != a2) (decide (m1 * 2 ^ s1 % (m2 * 2 ^ s2) = 0)) (m1 * 2 ^ s1 / (m2 * 2 ^ s2)) k)) := by
  have H : Hid (Len m1 200000000 ∧ Len m2 200000000 ∧ Len (m1 * 2 ^ s1) L ∧ Len (m2 * 2 ^ s2) 1 ∧ Tab w ∧ Nt w (.slice p1 n1 k1) m1 ∧ Nt w (.slice p2 n2 k2) m2) := ⟨hL1, hL2, hM1, hM2, hT, hn1, hn2⟩
  have HM0 := Lib.hid hm0
  clear hL1 hL2 hM1 hM2 hT hn1 hn2 hm0
  go_enter Tryz.func100, Tryz.ntmps100
  go_wp2_with fail
  obtain ⟨W, hW⟩ : ∃ W, W = ((w.alloc (.cells #[.bool a1, .slice p1 n1 k1, .int .i64 e1] 75)).alloc (.cells #[.bool a2, .slice p2 n2 k2, .int .i64 e2] 75)).alloc (.cells #[.bool false, .slice none 0 0, .int .i64 0, .bool false, .slice none 0 0, .int .i64 0] 116) := ⟨_, rfl⟩
  rw [← hW]
  have hB0 : Below w.heap.size w W := by rw [hW]; exact (((Below.refl _ _).alloc (Nat.le_refl _) _).alloc (by simp) _).alloc (by simp; omega) _
  have hsz : W.heap.size = w.heap.size + 1 + 1 + 1 := by rw [hW]; simp
  have hND0 : NoDig W (w.heap.size + 1 + 1) := by
    rw [hW, show w.heap.size + 1 + 1 = ((w.alloc (.cells #[.bool a1, .slice p1 n1 k1, .int .i64 e1] 75)).alloc (.cells #[.bool a2, .slice p2 n2 k2, .int .i64 e2] 75)).heap.size by simp]
    exact noDig_span _
  have x0 : W.cell? ⟨w.heap.size, 0, none⟩ = some (.bool a1) := by rw [hW]; go_simp
  have x1 : W.cell? ⟨w.heap.size, 1, none⟩ = some (.slice p1 n1 k1) := by rw [hW]; go_simp
  have x2 : W.cell? ⟨w.heap.size, 2, none⟩ = some (.int .i64 e1) := by rw [hW]; go_simp
  have t0 : W.cell? ⟨w.heap.size + 1, 0, none⟩ = some (.bool a2) := by rw [hW]; go_simp
  have t1 : W.cell? ⟨w.heap.size + 1, 1, none⟩ = some (.slice p2 n2 k2) := by rw [hW]; go_simp
  have t2 : W.cell? ⟨w.heap.size + 1, 2, none⟩ = some (.int .i64 e2) := by rw [hW]; go_simp
  have r0 : W.cell? ⟨w.heap.size + 1 + 1, 0, none⟩ = some (.bool false) := by rw [hW]; go_simp
  have r1 : W.cell? ⟨w.heap.size + 1 + 1, 1, none⟩ = some (.slice none 0 0) := by rw [hW]; go_simp
  have r2 : W.cell? ⟨w.heap.size + 1 + 1, 2, none⟩ = some (.int .i64 0) := by rw [hW]; go_simp
  have r3 : W.cell? ⟨w.heap.size + 1 + 1, 3, none⟩ = some (.bool false) := by rw [hW]; go_simp
  have r4 : W.cell? ⟨w.heap.size + 1 + 1, 4, none⟩ = some (.slice none 0 0) := by rw [hW]; go_simp
  have r5 : W.cell? ⟨w.heap.size + 1 + 1, 5, none⟩ = some (.int .i64 0) := by rw [hW]; go_simp
  have rf : ∀ o, W.frozen? ⟨w.heap.size + 1 + 1, o, none⟩ = false := fun o => by rw [hW]; go_simp
  have hz : w.heap.size + 1 + 1 < W.heap.size := by omega
  have hz1 : w.heap.size + 1 < W.heap.size := by omega
  have hz0 : w.heap.size < W.heap.size := by omega
  have HB0 := Lib.hid hB0
  have HND := Lib.hid hND0
  clear hW hsz hB0 hND0
  refine (zero_no W a2 p2 n2 k2 e2 hn0).mono ?_
  rintro e3 W1 ⟨rfl, hb1⟩
  have hB1 := Lib.hid hb1
  obtain ⟨hcc, hff⟩ := bcell hb1
  clear hb1
  go_wp2_with fail
  refine (clamp W1 k h0 h1).mono ?_
  rintro e3 W2 ⟨rfl, rfl⟩
  go_wp2
  have hw1 : Below w.heap.size w W2.drew := (HB0.out.trans (hB1.out.mono (by omega))).drew
  have HC := Lib.hid (left_nt W2.drew (.slice p1 n1 k1) m1 s1 (H.out.2.2.2.2.2.1.keep hw1) (H.out.1.mono (by omega)) hs1)
  have hB1d : Below W.heap.size W W2.drew := hB1.out.drew
  have hS0 : W.cell? ⟨w.heap.size, 1, none⟩ = some (.slice p1 n1 k1) ∧ W.cell? ⟨w.heap.size + 1, 1, none⟩ = some (.slice p2 n2 k2) := ⟨x1, t1⟩
  have hneg : IntKind.i64.wrap (-up) = -up := IntWalk.i64_in _ (by omega)
  have hSd := two_keep hS0 hB1d hz0 hz1
  clear hw1
  go_region_held3 (fun W' => W'.cell? ⟨w.heap.size, 1, none⟩ = some (.slice p1 n1 k1) ∧ W'.cell? ⟨w.heap.size + 1, 1, none⟩ = some (.slice p2 n2 k2))
    (with_reducible assumption)
    (first
      | (go_at_call_of 117 (Value.slice p1 n1 k1); refine HC.out.mono ?_; rintro e3 W3 ⟨v3, rfl, hv3, hb3⟩; (have hB3 : Below W.heap.size W W3 := hB1d.trans (hb3.mono hB1d.size)); (have hS3 := two_keep hS0 hB3 hz0 hz1))
      | (go_at_call 117; refine (left_nt W3 (.slice p2 n2 k2) m2 s2 (H.out.2.2.2.2.2.2.keep (HB0.out.trans (hB3.mono (by omega)))) (H.out.2.1.mono (by omega)) hs2).mono ?_; rintro e4 W4 ⟨v4, rfl, hv4, hb4⟩; (have hB4 : Below W.heap.size W W4 := hB3.trans (hb4.mono hB3.size)); (have hS4 := two_keep hS0 hB4 hz0 hz1); (have hv3' := hv3.keep hb4))
      | (go_at_call 141; refine (over_nt W4 v3 v4 (m1 * 2 ^ s1) (m2 * 2 ^ s2) hv3' hv4 (H.out.2.2.1.mono (by omega)) H.out.2.2.2.1 HM0.out).mono ?_; rintro e5 W5 ⟨vq, vr, rfl, ⟨hvq, hvr⟩, hb5⟩; (have hB5 : Below W.heap.size W W5 := hB4.trans (hb5.mono hB4.size)); (have hS5 := two_keep hS0 hB5 hz0 hz1); (obtain ⟨hcc5, hff5⟩ := bcell hB5); (obtain ⟨pq, nq, kq, rfl⟩ := hvq.slice); (obtain ⟨pr, nr, kr, rfl⟩ := hvr.slice)))
  all_goals
    have hrz := hvr.len_zero
    have hdec : ((nr : Int) == 0) = decide (m1 * 2 ^ s1 % (m2 * 2 ^ s2) = 0) := by
      rw [Bool.eq_iff_iff, beq_iff_eq, decide_eq_true_iff, ← hrz]; omega
    have HDEC := Lib.hid hdec
    clear hcc hff
    have hcc := hcc5
    have hff := hff5
    have HQ := Lib.hid hvq
    have HB5 := Lib.hid hB5
    clear hvr hrz hdec hv3 hv4 hv3' hb3 hb4 hb5 hB3 hB4 hB5 hB1d hS3 hS4 hS5 hSd hvq hS0
    go_wp2_with fail
    rw [HDEC.out]
    have hLq : Len (m1 * 2 ^ s1 / (m2 * 2 ^ s2)) L := Nat.lt_of_le_of_lt (Nat.div_le_self _ _) H.out.2.2.1
    refine (rounded_nm W5 (a1 != a2) pq nq kq _ L k (decide (m1 * 2 ^ s1 % (m2 * 2 ^ s2) = 0)) HQ.out hLq hLb h0 h1 (H.out.2.2.2.2.1.keep (HB0.out.trans (HB5.out.mono (by omega))))).mono ?_
    rintro e6 W6 ⟨v6, rfl, hv6, hb6⟩
    obtain ⟨b1, q1, l1, c1, f1, b2, q2, l2, c2, f2, rfl, hx, hy⟩ := hv6
    have HX := Lib.hid hx
    have HY := Lib.hid hy
    have hz5 : w.heap.size + 1 + 1 < W5.heap.size := Nat.lt_of_lt_of_le hz HB5.out.size
    have HND5 : Hid (NoDig W5 (w.heap.size + 1 + 1)) := HND.out.keep HB5.out hz
    have HND6 : Hid (NoDig W6 (w.heap.size + 1 + 1)) := HND5.out.keep hb6 hz5
    have HB6 : Hid (Below w.heap.size w W6) := (HB0.out.trans (HB5.out.mono (by omega))).trans (hb6.mono (by omega))
    obtain ⟨hcc6, hff6⟩ := bcell hb6
    clear hb6 hx hy
    go_wp2
    refine bodyPost_ret (v := .tuple #[.agg #[.bool b1, .slice q1 l1 c1, .int .i64 f1, .bool b2, .slice q2 l2 c2, .int .i64 f2], .int .i64 0]) (by simp [results, Tryz.results100, go_sem, hcc6, hcc, hz, hz5, r0, r1, r2, r3, r4, r5]) rfl ⟨_, _, rfl, ⟨rfl, b1, q1, l1, c1, f1, b2, q2, l2, c2, f2, rfl, (HX.out.set3 HND6.out).set3 HND6.out.set3, (HY.out.set3 HND6.out).set3 HND6.out.set3⟩, below_set3 (below_set3 HB6.out (by omega)) (by omega)⟩
end Go.Proofs.YtlphlbgbbblnpaaGreatDoor.Dy
