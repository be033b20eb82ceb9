/-
  WALKS: strength: the crew that can begin first; Greedy.
-/
import Derived.Test.YtlphlbgbbblnpaaGreatDoorStCE
import Derived.Test.YtlphlbgbbblnpaaGreatDoorOwB
import Derived.OwnWalk
import Derived.Laws.AppendOwn
namespace Go.Proofs.YtlphlbgbbblnpaaGreatDoor
open Go.RowKit

/-- The greater one, whole. -/
theorem run_maxL {P : Program} {w : World} (ts : Array TypeId) (t : TypeId) (k k' : IntKind) (x y : Int) : (Builtin.max_ ts t #[.int k x, .int k' y]).run P w = .ok (.int k (max x y)) w := by
  rw [run_max_int2]
  congr 2
  split <;> omega
attribute [-go_sem] run_max_int2
attribute [local go_sem] run_maxL
set_option maxRecDepth 100000 in
set_option maxHeartbeats 4000000 in
theorem soonest_of (w : World) (g C cap : Nat) (F : Nat → Nat) (r : Nat) (h0 : 0 < C) (hC : C ≤ 4) (hR : Blk w g 3 C (ixG F)) :
    Calls Tryz.prog 59 #[.slice (some ⟨g, 0, none⟩) C cap, .int .i64 (r : Int)] w fun e w' => e = .returned (.tuple #[.int .i64 ((bestC F r C : Nat) : Int), .int .i64 (max ((F (bestC F r C) : Nat) : Int) (r : Int))]) ∧ w' = w := by
  have HR := Lib.hid hR
  have c0 : w.cell? ⟨g, 0, none⟩ = some (.int .i64 ((F 0 : Nat) : Int)) := hR.cell h0
  clear hR
  go_enter Tryz.func59, Tryz.ntmps59
  go_wp2_with fail
  go_loopw [4, 5, 15] (fun vc vs vi wr => wr = w ∧ ∃ i : Nat, i ≤ C ∧ vi = .int .i64 i ∧ vc = .int .i64 ((bestC F r i : Nat) : Int) ∧ vs = .int .i64 (max ((F (bestC F r i) : Nat) : Int) (r : Int))) (fun _ _ vi _ => C - (intOf vi).toNat)
  case atStart => exact ⟨rfl, 0, by omega, rfl, rfl, rfl⟩
  case round =>
    obtain ⟨rfl, i, hi, rfl, rfl, rfl⟩ := hrel
    by_cases hlt : i < C
    · have ci : wr.cell? ⟨g, i, none⟩ = some (.int .i64 ((F i : Nat) : Int)) := HR.out.cell hlt
      have hs : bestC F r (i + 1) = if max (F i) r < max (F (bestC F r i)) r then i else bestC F r i := rfl
      generalize bestC F r i = b0 at hs ⊢
      by_cases hle : max (F i) r < max (F b0) r
      · rw [if_pos hle] at hs
        have HS := Lib.hid hs
        have hI : max ((F i : Nat) : Int) (r : Int) < max ((F b0 : Nat) : Int) (r : Int) := by omega
        clear hs hle
        go_wp2_with fail
        exact ⟨⟨trivial, i + 1, by omega, by go_num, by rw [HS.out], by rw [HS.out]⟩, by simp [intOf]; omega⟩
      · rw [if_neg hle] at hs
        have HS := Lib.hid hs
        have hI : ¬(max ((F i : Nat) : Int) (r : Int) < max ((F b0 : Nat) : Int) (r : Int)) := by omega
        clear hs hle
        go_wp2_with fail
        exact ⟨⟨trivial, i + 1, by omega, by go_num, by rw [HS.out], by rw [HS.out]⟩, by simp [intOf]; omega⟩
    · obtain rfl : i = C := by omega
      go_wp2_with fail
      exact bodyPost_ret (v := .tuple #[.int .i64 ((bestC F r i : Nat) : Int), .int .i64 (max ((F (bestC F r i) : Nat) : Int) (r : Int))]) (by simp [results, Tryz.f59, go_sem]) rfl ⟨rfl, rfl⟩

/-- The cells of slots in a row of one's own. -/
theorem own_Sl3s {W : World} {B : Nat} {e : TypeId} {v : Value} {l : List Tr3} (h : W.ownsRow B e 3 v l.length (scells l)) : ∃ x c, v = .slice x l.length c ∧ l.length ≤ c ∧ Sl W 3 x l.length (sf l) := by
  obtain ⟨n, hn⟩ : ∃ n, l.length = n := ⟨_, rfl⟩
  rw [hn] at h ⊢
  cases n with
  | zero =>
    rcases h.2 with ⟨rfl, _⟩ | ⟨g, cap, cur, rfl, _⟩
    · exact ⟨none, 0, rfl, Nat.le_refl _, fun h => absurd h (by decide)⟩
    · exact ⟨some ⟨g, 0, none⟩, cap, rfl, Nat.zero_le _, fun h => absurd h (by decide)⟩
  | succ m =>
    have hc : ∃ g cap, v = .slice (some ⟨g, 0, none⟩) (m + 1) cap ∧ m + 1 ≤ cap := by
      rcases h.2 with ⟨_, h0⟩ | ⟨g, cap, cur, rfl, _, _, hcap, _⟩
      · omega
      · exact ⟨g, cap, rfl, hcap⟩
    obtain ⟨g, cap, rfl, hcap⟩ := hc
    refine ⟨some ⟨g, 0, none⟩, cap, rfl, hcap, fun _ => ⟨g, 0, rfl, fun i hi => ?_⟩⟩
    have hl : i < (sints l).length := by rw [sints_len, hn]; exact hi
    rw [Nat.zero_add, World.ownsRow.cellAt h i hi]
    unfold scells sf
    rw [List.getElem?_map, List.getElem?_eq_getElem hl, List.getD, List.getElem?_eq_getElem hl]
    rfl
theorem cells_tri3 (W : World) (a b c : Value) (t : TypeId) : ∀ (j : Nat) (u : Value), [a, b, c][j]? = some u → (W.alloc (.cells #[a, b, c] t)).cell? ((⟨W.heap.size, 0, none⟩ : Addr).add j) = some u := by
  intro j u h
  have hh := World.alloc_heap_new W (.cells #[a, b, c] t)
  match j, h with
  | 0, h => rw [show (⟨W.heap.size, 0, none⟩ : Addr).add 0 = ⟨W.heap.size, 0, none⟩ by simp [Addr.add], cell_h hh rfl]; simpa using h
  | 1, h => rw [show (⟨W.heap.size, 0, none⟩ : Addr).add 1 = ⟨W.heap.size, 1, none⟩ by simp [Addr.add], cell_h hh rfl]; simpa using h
  | 2, h => rw [show (⟨W.heap.size, 0, none⟩ : Addr).add 2 = ⟨W.heap.size, 2, none⟩ by simp [Addr.add], cell_h hh rfl]; simpa using h
theorem x_slot : (Tryz.prog.info? 80).map (fun i => (i.zero, i.size, i.bytes)) = some (some (.agg #[.int .i64 0, .int .i64 0, .int .i64 0]), 3, 24) := by kernel_rfl
/-- A block of one's own type is no row of another one. -/
theorem blk_row {W : World} {b n : Nat} {g : Nat → Value} {t e : TypeId} {base size k : Nat} {v : Value} {xs : List Value} (hte : t ≠ e) (h : Blk W b t n g) (hr : W.ownsRow base e size v k xs) : some b ≠ v.ownBlock := by
  intro e'
  rcases hr.2 with ⟨rfl, _⟩ | ⟨g, cap, cur, rfl, h1, h2, h3⟩
  · simp [Value.ownBlock] at e'
  · obtain rfl : b = g := by simpa [Value.ownBlock] using e'
    rw [show W.heap[b]? = _ from h] at h2
    simp only [Option.some.injEq, Obj.cells.injEq] at h2
    exact hte h2.2.1
theorem blk_grow {W W' : World} {b n : Nat} {g : Nat → Value} {t e : TypeId} {base size k : Nat} {v : Value} {xs : List Value} (hte : t ≠ e) (h : Blk W b t n g) (hr : W.ownsRow base e size v k xs) (hg : W.grownBy W' v.ownBlock) : Blk W' b t n g :=
  (hg.block b h.lt (blk_row hte h hr)).trans h

theorem own_belowS {w W : World} {base : Nat} {e : TypeId} {size : Nat} {v : Value} {k : Nat} {xs : List Value} (h : w.ownsRow base e size v k xs) (hb : Below w.heap.size w W) : W.ownsRow base e size v k xs := by
  obtain ⟨hl, h⟩ := h
  refine ⟨hl, ?_⟩
  rcases h with h | ⟨g, cap, cur, h0, h1, h2, h3⟩
  · exact .inl h
  · exact .inr ⟨g, cap, cur, h0, h1, (hb.block _ (Array.getElem?_eq_some_iff.1 h2).1).trans h2, h3⟩
/-- What Greedy tells. -/
def grl (f : Nat → Int) (n C N : Nat) : List Tr3 := (gr (jbs f) (isort (lessR f) n fun i => i) C N n).2
theorem jok_ok {f : Nat → Int} {n : Nat} {C N : Int} (h : jsE f n C N = 0) : JOk f n := fun i hi => ⟨((jok_of h).2.2.2 i hi).1, ((jok_of h).2.2.2 i hi).2.1⟩
set_option maxRecDepth 100000 in
set_option maxHeartbeats 8000000 in
theorem greedy_of (w : World) (q : Option Addr) (n c : Nat) (f : Nat → Int) (C N : Nat) (hn : n ≤ 19) (hj : jsE f n C N = 0) (hS : Sl w 4 q n f) :
    Calls Tryz.prog 21 #[.slice q n c, .int .i64 (C : Int), .int .i64 (N : Int)] w fun e w' => ∃ x k, e = .returned (.tuple #[.slice x (grl f n C N).length k, .int .i64 0]) ∧ (grl f n C N).length ≤ k ∧ Sl w' 3 x (grl f n C N).length (sf (grl f n C N)) ∧ Below w.heap.size w w' := by
  obtain ⟨_, hC, hN, hjf⟩ := jok_of hj
  have HF := Lib.hid (jok_ok hj)
  have HJf := Lib.hid hjf
  have HS := Lib.hid hS
  have HJ := Lib.hid hj
  clear hjf hS hj
  go_enter Tryz.func21, Tryz.ntmps21
  go_wp2_with fail
  obtain ⟨W, hW⟩ : ∃ W, w.alloc (.cells #[.slice q n c] 63) = W := ⟨_, rfl⟩
  rw [hW]
  have hb : Below w.heap.size w W := by rw [← hW]; exact (Below.refl _ _).alloc (Nat.le_refl _) _
  have hcl : W.cell? ⟨w.heap.size, 0, none⟩ = some (.slice q n c) := by rw [← hW]; exact cell_h (World.alloc_heap_new w _) rfl
  have HJA : Hid (JAt W w.heap.size q n c f) := ⟨hcl, HS.out.keep (by decide) hb⟩
  have HB := Lib.hid hb
  clear hW hb hcl
  obtain ⟨jb, hjb⟩ : ∃ jb, w.heap.size = jb := ⟨_, rfl⟩
  rw [hjb] at HJA
  have HJb := Lib.hid hjb
  rw [hjb]
  clear hjb
  have hcl := HJA.out.cl
  go_wp2_with fail
  refine (scheck_of W q n c f C N (by unfold maxLen; omega) HJA.out.sl).mono ?_
  rintro e W1 ⟨rfl, hb1⟩
  rw [HJ.out]
  have HB1 := Lib.hid (low_trans HB.out hb1)
  have HJ1 := Lib.hid (HJA.out.keep hb1)
  clear hb1 hcl HJA HB
  have hcl := HJ1.out.cl
  have hjl : jb < W1.heap.size := World.block_lt_of_cell? _ _ hcl
  go_wp2_with (at_make; refine wp_makeB _ rfl _ _ 33 3 rfl Tryz.underlying33 x_intS rfl (by decide) _ _ C rfl rfl (by push_cast; rfl) (by push_cast; rfl) (by omega) (by decide) ?_)
  obtain ⟨W2, hW⟩ : ∃ W, W1.alloc (.cells (vrow C (zc (.int .i64 0) 1)) 3) = W := ⟨_, rfl⟩
  rw [hW]
  have hb2 : Below W1.heap.size W1 W2 := by rw [← hW]; exact (Below.refl _ _).alloc (Nat.le_refl _) _
  have hF0 : Blk W2 W1.heap.size 3 C (ixG fun _ => 0) := by
    rw [← hW]
    refine (Blk.new W1 _ _ _).congr fun i _ => ?_
    unfold ixG zc
    rw [Nat.mod_one]
    rfl
  obtain ⟨fg, hfg⟩ : ∃ fg, W1.heap.size = fg := ⟨_, rfl⟩
  have HJ2 := Lib.hid (HJ1.out.keep hb2)
  have HB2 := Lib.hid (low_trans HB1.out hb2)
  rw [hfg] at hF0 hjl hb2
  have hle : w.heap.size ≤ fg := by rw [← hfg]; exact HB1.out.size
  rw [hfg]
  have HF0 := Lib.hid hF0
  have hfl := hF0.lt
  clear hW hfg hF0 hcl HB1 HJ1 hb2
  refine (ordered_of W2 n jb c q f hn HF.out HJ2.out).mono ?_
  rintro e W3 ⟨g, rfl, hgl, hO, hb3⟩
  have HO := Lib.hid hO
  have HB3 := Lib.hid (low_trans HB2.out hb3)
  have HJ3 := Lib.hid (HJ2.out.keep hb3)
  have HF3 := Lib.hid (HF0.out.keep hb3 hfl)
  have hfl3 := HF3.out.lt
  have hgl3 := hO.lt
  have hjl3 : jb < W3.heap.size := by omega
  have hgf : g ≠ fg := by omega
  have HQl : Hid (0 < n → ∀ b o1, q = some (⟨b, o1, none⟩ : Addr) → b < fg) := fun h0 b o1 e => by
    obtain ⟨b', o', e', hI⟩ := HS.out h0
    have := hI.lt (by omega)
    rw [e] at e'
    cases e'
    omega
  clear hO hb3 HB2 HJ2 HF0
  have hP := (isP_id n).isort (lt := lessR f) (Nat.le_refl n)
  have HGL : Hid (grl f n C N = (gr (jbs f) (isort (lessR f) n fun i => i) C N n).2) := Lib.hid rfl
  generalize isort (lessR f) n (fun i => i) = o at HO hP HGL
  have HP := Lib.hid hP
  clear hP
  obtain ⟨i0, hi, hz0, hz1, hz2⟩ := info_parts x_slot
  go_wp2_with fail
  go_loopw [11, 31] (fun v vi wr => ∃ k : Nat, k ≤ n ∧ vi = .int .i64 k ∧ Hid (wr.ownsRow W3.heap.size 80 3 v (gr (jbs f) o C N k).2.length (scells (gr (jbs f) o C N k).2)) ∧ Hid (Blk wr fg 3 C (ixG (gr (jbs f) o C N k).1)) ∧ Hid (Blk wr g 3 n (ixG o)) ∧ Hid (Below fg W3 wr) ∧ W3.heap.size ≤ wr.heap.size) (fun _ vi _ => n - (intOf vi).toNat)
  case atStart => exact ⟨0, by omega, rfl, ⟨rfl, .inl ⟨rfl, rfl⟩⟩, HF3.out, HO.out, Below.refl _ _, Nat.le_refl _⟩
  case round =>
    obtain ⟨k, hk, rfl, HR, HT, HOr, HBr, hsz⟩ := hrel
    by_cases hlt : k < n
    · have hok : o k < n := HP.out.1 k hlt
      have hj := HJf.out (o k) hok
      have hJr : JAt wr jb q n c f := by
        obtain ⟨h1, h2⟩ := HJ3.out
        refine ⟨(HBr.out.cell (p := ⟨jb, 0, none⟩) hjl).trans h1, fun h0 => ?_⟩
        obtain ⟨b, o1, e1, hI⟩ := h2 h0
        exact ⟨b, o1, e1, hI.keep HBr.out (HQl.out h0 b o1 e1)⟩
      have HJr := Lib.hid hJr
      have hcl := hJr.cl
      obtain ⟨b, o1, rfl, hI⟩ := hJr.sl (by omega)
      have d0 := hI (o k * 4) (by omega)
      have d1 := hI.at (o k * 4) 1 (by omega)
      have d2 := hI.at (o k * 4) 2 (by omega)
      have d3 := hI.at (o k * 4) 3 (by omega)
      have hfit := (gr_fit (R := jbs f) (C := C) (N := N) (o := o) (n := n) (by omega) HP.out (k := k) hk).2.2
      have hlen := gr_len (R := jbs f) (o := o) (C := C) (N := N) k
      have hst : gr (jbs f) o C N (k + 1) = if max ((gr (jbs f) o C N k).1 (bestC (gr (jbs f) o C N k).1 (jbs f (o k)).2.2.1 C)) (jbs f (o k)).2.2.1 + (jbs f (o k)).2.1 ≤ min (jbs f (o k)).2.2.2 N then (fun i => if i = bestC (gr (jbs f) o C N k).1 (jbs f (o k)).2.2.1 C then max ((gr (jbs f) o C N k).1 (bestC (gr (jbs f) o C N k).1 (jbs f (o k)).2.2.1 C)) (jbs f (o k)).2.2.1 + (jbs f (o k)).2.1 else (gr (jbs f) o C N k).1 i, (gr (jbs f) o C N k).2 ++ [(o k, bestC (gr (jbs f) o C N k).1 (jbs f (o k)).2.2.1 C, max ((gr (jbs f) o C N k).1 (bestC (gr (jbs f) o C N k).1 (jbs f (o k)).2.2.1 C)) (jbs f (o k)).2.2.1)]) else gr (jbs f) o C N k := rfl
      have hjb : jbs f (o k) = ((f (o k * 4)).toNat, (f (o k * 4 + 1)).toNat, (f (o k * 4 + 2)).toNat, (f (o k * 4 + 3)).toNat) := rfl
      generalize hG2 : gr (jbs f) o C N (k + 1) = G2 at hst ⊢
      have HG2 := Lib.hid hG2
      clear hG2
      generalize gr (jbs f) o C N k = G at HR HT hfit hlen hst
      rw [hjb] at hst
      dsimp only at hst
      obtain ⟨x0, e0⟩ : ∃ x : Nat, f (o k * 4) = (x : Int) := ⟨(f (o k * 4)).toNat, by omega⟩
      obtain ⟨D, e1⟩ : ∃ x : Nat, f (o k * 4 + 1) = (x : Int) := ⟨(f (o k * 4 + 1)).toNat, by omega⟩
      obtain ⟨A, e2⟩ : ∃ x : Nat, f (o k * 4 + 2) = (x : Int) := ⟨(f (o k * 4 + 2)).toNat, by omega⟩
      obtain ⟨U, e3⟩ : ∃ x : Nat, f (o k * 4 + 3) = (x : Int) := ⟨(f (o k * 4 + 3)).toNat, by omega⟩
      rw [e0] at d0
      rw [e1] at d1
      rw [e2] at d2
      rw [e3] at d3
      rw [e0, e1, e2, e3] at hj
      rw [e1, e2, e3, Int.toNat_natCast, Int.toNat_natCast, Int.toNat_natCast] at hst
      clear e0 e1 e2 e3 hjb hI hJr
      obtain ⟨F, l⟩ := G
      dsimp only at HR HT hfit hlen hst
      have hcr := bestC_lt F A (k := C) (by omega)
      have hSn : ∀ V, Blk V fg 3 C (ixG F) → Calls Tryz.prog 59 #[.slice (some ⟨fg, 0, none⟩) C C, .int .i64 (A : Int)] V _ := fun V hV => soonest_of V fg C C F A (by omega) (by omega) hV
      generalize bestC F A C = cr at hcr hst hSn
      have hft := hfit cr
      obtain ⟨t, ht⟩ : ∃ t, max (F cr) A = t := ⟨_, rfl⟩
      have htI : max ((F cr : Nat) : Int) (A : Int) = (t : Int) := by omega
      have ht2 : t ≤ 365 := by omega
      rw [htI] at hSn
      rw [ht] at hst
      have HSn := Lib.hid hSn
      have HSt := Lib.hid hst
      have co : wr.cell? ⟨g, k, none⟩ = some (.int .i64 ((o k : Nat) : Int)) := HOr.out.cell hlt
      generalize hokk : o k = ok at *
      clear hokk hSn hst htI ht hfit
      have hfl4 : fg < wr.heap.size := HT.out.lt
      have hgl4 : g < wr.heap.size := HOr.out.lt
      have hjl4 : jb < wr.heap.size := by omega
      have hbl : b < wr.heap.size := World.block_lt_of_cell? _ _ d0
      have hokI : (ok : Int) < (n : Int) := by omega
      go_wp2_with fail
      refine (HSn.out wr HT.out).mono ?_
      rintro e w9 ⟨rfl, rfl⟩
      have ww : IntKind.i64.wrap ((t : Int) + (D : Int)) = (t : Int) + (D : Int) := IntWalk.i64_in _ (by omega)
      go_upto_region 11 with fail
      have HS0 : Hid (w9.cell? ⟨jb, 0, none⟩ = some (.slice (some ⟨b, o1, none⟩) n c) ∧ w9.cell? ⟨b, o1 + ok * 4, none⟩ = some (.int .i64 (x0 : Int)) ∧ w9.cell? ⟨b, o1 + ok * 4 + 1, none⟩ = some (.int .i64 (D : Int)) ∧ w9.cell? ⟨b, o1 + ok * 4 + 2, none⟩ = some (.int .i64 (A : Int)) ∧ w9.cell? ⟨b, o1 + ok * 4 + 3, none⟩ = some (.int .i64 (U : Int))) := ⟨hcl, d0, d1, d2, d3⟩
      go_region_held3 (fun W' => W'.cell? ⟨jb, 0, none⟩ = some (.slice (some ⟨b, o1, none⟩) n c) ∧ W'.cell? ⟨b, o1 + ok * 4, none⟩ = some (.int .i64 (x0 : Int)) ∧ W'.cell? ⟨b, o1 + ok * 4 + 1, none⟩ = some (.int .i64 (D : Int)) ∧ W'.cell? ⟨b, o1 + ok * 4 + 2, none⟩ = some (.int .i64 (A : Int)) ∧ W'.cell? ⟨b, o1 + ok * 4 + 3, none⟩ = some (.int .i64 (U : Int)))
        (first | (with_reducible assumption) | (with_reducible exact HS0.out) | go_keep)
        ((go_at_call 60; refine (send_of _ _ _ _ _ _).mono ?_; rintro e8 w8 ⟨rfl, rfl⟩))
      have hbV : Below w9.heap.size w9 (w9.alloc (.cells #[.int .i64 (x0 : Int), .int .i64 (D : Int), .int .i64 (A : Int), .int .i64 (U : Int)] 66)).drew := ((Below.refl _ _).alloc (Nat.le_refl _) _).drew
      have HRV := Lib.hid (own_belowS HR.out hbV)
      have HTV := Lib.hid (HT.out.keep hbV hfl4)
      have HOV := Lib.hid (HOr.out.keep hbV hgl4)
      have HBV := Lib.hid (HBr.out.trans (hbV.mono (Nat.le_of_lt hfl4)))
      have hszV := hbV.size
      have hjlV : jb < (w9.alloc (.cells #[.int .i64 (x0 : Int), .int .i64 (D : Int), .int .i64 (A : Int), .int .i64 (U : Int)] 66)).drew.heap.size := by omega
      obtain ⟨a0, a1, a2, a3, a4⟩ := HS0.out
      have z0 := (hbV.cell (p := ⟨jb, 0, none⟩) hjl4).trans a0
      have z1 := (hbV.cell (p := ⟨b, o1 + ok * 4, none⟩) hbl).trans a1
      have z2 := (hbV.cell (p := ⟨b, o1 + ok * 4 + 1, none⟩) hbl).trans a2
      clear hbV HR HT HOr HBr HS0 a0 a1 a2 a3 a4 hcl d0 d1 d2 d3 co
      have hszW := Nat.le_trans hsz hszV
      generalize (w9.alloc (.cells #[.int .i64 (x0 : Int), .int .i64 (D : Int), .int .i64 (A : Int), .int .i64 (U : Int)] 66)).drew = V at HRV HTV HOV HBV hszV hjlV z0 z1 z2 hszW ⊢
      clear hszV
      by_cases hle : t + D ≤ min U N
      · have hleI : (t : Int) + (D : Int) ≤ min (U : Int) (N : Int) := by omega
        have hst := HSt.out
        rw [if_pos hle] at hst
        have HG3 : Hid (gr (jbs f) o C N (k + 1) = (fun i => if i = cr then t + D else F i, l ++ [(ok, cr, t)])) := by rw [HG2.out]; exact Lib.hid hst
        clear hst HSt HG2 hle
        have hw1 : IntKind.i64.wrap ((t : Int) + (D : Int)) = ((t + D : Nat) : Int) := by rw [ww]; push_cast; rfl
        have hbq : b < fg := HQl.out (by omega) b o1 rfl
        have hfW : fg ≤ W3.heap.size := Nat.le_of_lt hfl3
        have hfl5 : fg < V.heap.size := HTV.out.lt
        go_wp2_with (at_builtin; refine wpList_append_own _ rfl _ _ 67 rfl W3.heap.size 80 i0 (.agg #[.int .i64 0, .int .i64 0, .int .i64 0]) 3 24 Tryz.underlying67 hi hz0 hz1 hz2 rfl (by decide) _ l.length _ rfl (HRV.out.alloc _) ⟨V.heap.size, 0, none⟩ 1 1 [.int .i64 (ok : Int), .int .i64 (cr : Int), .int .i64 (t : Int)] rfl rfl (cells_tri3 V (.int .i64 (ok : Int)) (.int .i64 (cr : Int)) (.int .i64 (t : Int)) 80) (by simp [Value.oneCell']) (by unfold maxLen; omega) (by omega) (by simp; omega) ?_; intro v2 w3 hown hgrow _; (have hb3 := (((Below.refl fg V).alloc (Nat.le_of_lt hfl5) (.cells #[.int .i64 (ok : Int), .int .i64 (cr : Int), .int .i64 (t : Int)] 80)).grown hgrow (by simp; omega) (fun j hj => Nat.le_trans hfW (HRV.out.lt j hj).1))); (have y0 := (hb3.cell (p := ⟨jb, 0, none⟩) hjl).trans z0); (have y2 := (hb3.cell (p := ⟨b, o1 + ok * 4 + 1, none⟩) hbq).trans z2); (have hT3 := blk_grow (by decide) (HTV.out.alloc _) (HRV.out.alloc _) hgrow); (have hO3 := blk_grow (by decide) (HOV.out.alloc _) (HRV.out.alloc _) hgrow); (have hf3 := hT3.fz cr); (have c3 := hT3.cell hcr); (have hl3 := hT3.lt); (have hq3 := hb3.size))
        have hw3 : IntKind.i64.wrap ((t : Int) + (D : Int)) = (t : Int) + (D : Int) := ww
        refine ⟨⟨k + 1, by omega, by go_num, ?_, ?_, ?_, ?_, ?_⟩, by simp [intOf]; omega⟩
        · rw [HG3.out, List.length_append, scells_app, scells_one]
          exact ownsRow_setCell_below hown (a := ⟨fg, cr, none⟩) (Nat.lt_of_lt_of_le hfl3 (Nat.le_refl _)) _
        · rw [HG3.out]
          refine (hT3.set cr (.int .i64 ((t : Int) + (D : Int)))).congr fun i _ => ?_
          unfold turn ixG
          by_cases hi : i = cr
          · simp [hi]
          · simp [hi]
        · exact (Below.heap_setCell _ _ _ _ hgf).trans hO3
        · exact (HBV.out.trans hb3).setCell (p := ⟨fg, cr, none⟩) (Nat.le_refl fg) _
        · simp; omega
      · have hleI : ¬((t : Int) + (D : Int) ≤ min (U : Int) (N : Int)) := by omega
        have hst := HSt.out
        rw [if_neg hle] at hst
        have HG3 : Hid (gr (jbs f) o C N (k + 1) = (F, l)) := by rw [HG2.out]; exact Lib.hid hst
        clear hst HSt HG2 hle
        go_wp2_with fail
        exact ⟨⟨k + 1, by omega, by go_num, by rw [HG3.out]; exact HRV.out, by rw [HG3.out]; exact HTV.out, HOV.out, HBV.out, hszW⟩, by simp [intOf]; omega⟩
    · obtain rfl : k = n := by omega
      obtain ⟨x, cx, rfl, hcx, hx⟩ := own_Sl3s HR.out
      have HX := Lib.hid hx
      have HBe : Hid (Below w.heap.size w wr) := HB3.out.trans (HBr.out.mono hle)
      clear hx
      go_wp2_with fail
      refine bodyPost_ret (v := .tuple #[.slice x (gr (jbs f) o C N k).2.length cx, .int .i64 0]) (by simp [results, Tryz.f21, go_sem]) rfl ⟨x, cx, ?_, ?_, ?_, ?_⟩
      · rw [HGL.out]
      · rw [HGL.out]; exact hcx
      · rw [HGL.out]; exact HX.out
      · exact HBe.out
end Go.Proofs.YtlphlbgbbblnpaaGreatDoor
