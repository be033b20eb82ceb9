/-
  WALKS: Line.
-/
import Derived.Test.YtlbffdgojmjijaaDoorDeE
import Derived.Test.YtlbffdgojmjijaaDoorPlCJ
namespace Go.Proofs.YtlbffdgojmjijaaDoor
open Go.RowKit Go.Shelf

attribute [local go_sem] Oper.semAt_some

set_option maxRecDepth 100000 in
set_option maxHeartbeats 4000000 in
theorem within_yes (w : World) (x y z m : Int) (hx : -m ≤ x ∧ x ≤ m) (hy : -m ≤ y ∧ y ≤ m) (hz : -m ≤ z ∧ z ≤ m) (hm : 0 ≤ m ∧ m ≤ 1073741824) :
    Calls Tryd.prog 21 #[.agg #[.int .i64 x, .int .i64 y, .int .i64 z], .int .i64 m] w fun e w' => e = .returned (.bool true) ∧ Below w.heap.size w w' := by
  have w1 : IntKind.i64.wrap (-m) = -m := IntWalk.i64_in _ (by omega)
  have hB := (Below.refl w.heap.size w).alloc (Nat.le_refl _) (.cells #[.int .i64 x, .int .i64 y, .int .i64 z] 36)
  go_enter Tryd.func21, Tryd.ntmps21
  go_wp2
  all_goals go_ret
  all_goals exact ⟨rfl, hB⟩

theorem placesIt_of (w : World) (a : Option Addr) (n c : Nat) : Calls Tryd.prog 22 #[.slice a n c] w fun e w' => e = .returned (.func (.func 45) #[] #[.pointer (some ⟨w.heap.size, 0, none⟩)]) ∧ w' = w.alloc (.cells #[.slice a n c] 24) := by
  go_enter Tryd.func22, Tryd.ntmps22
  go_wp2
  go_ret
  exact ⟨rfl, rfl⟩

set_option maxRecDepth 100000 in
set_option maxHeartbeats 4000000 in
theorem steps_ok (w : World) (a : Option Addr) (n c : Nat) (f : Nat → Int) (h : VsOk n f) (hS : Sl w 3 a n f) :
    Calls Tryd.prog 24 #[.slice a n c] w fun e w' => e = .returned (.int .i64 0) ∧ Below w.heap.size w w' := by
  obtain ⟨hn, hf⟩ := h
  have HF := Lib.hid hf
  obtain ⟨b, o, rfl, hI⟩ := hS (by omega)
  have HI := Lib.hid hI
  have hbl := hI.lt (by omega)
  have ec : (1 : Int) ≤ n ∧ (n : Int) ≤ 64 := by omega
  clear hf hS hI
  go_enter Tryd.func24, Tryd.ntmps24
  go_wp2_with fail
  go_loopw [15] (fun vi wr => ∃ k : Nat, k ≤ n ∧ vi = .int .i64 k ∧ Hid (Below w.heap.size w wr)) (fun vi _ => n - (intOf vi).toNat)
  case atStart => exact ⟨0, by omega, rfl, Below.refl _ _⟩
  case round =>
    obtain ⟨k, hk, rfl, HB⟩ := hrel
    by_cases hlt : k < n
    · have hJ := HI.out.keep HB.out hbl
      have d0 := hJ (k * 3) (by omega)
      have d1 := hJ.at (k * 3) 1 (by omega)
      have d2 := hJ.at (k * 3) 2 (by omega)
      have q0 := HF.out k hlt 0 (by omega)
      have q1 := HF.out k hlt 1 (by omega)
      have q2 := HF.out k hlt 2 (by omega)
      rw [Nat.add_zero] at q0
      have hbw : b < wr.heap.size := Nat.lt_of_lt_of_le hbl HB.out.size
      have HW : Hid (∀ V, Calls Tryd.prog 21 #[.agg #[.int .i64 (f (k * 3)), .int .i64 (f (k * 3 + 1)), .int .i64 (f (k * 3 + 2))], .int .i64 1048576] V fun e w' => e = .returned (.bool true) ∧ Below V.heap.size V w') := fun V => within_yes V _ _ _ _ q0 q1 q2 (by omega)
      have hss := HB.out.size
      clear hJ q0 q1 q2
      go_wp2_with fail
      refine (HW.out _).mono ?_
      rintro e W2 ⟨rfl, hb2⟩
      have HB2 := Lib.hid ((HB.out.alloc hss (.cells #[.int .i64 (f (k * 3)), .int .i64 (f (k * 3 + 1)), .int .i64 (f (k * 3 + 2))] 36)).trans (hb2.mono (by simp; omega)))
      clear hb2
      go_wp2_with fail
      exact ⟨⟨k + 1, by omega, by go_num, HB2⟩, by simp [intOf]; omega⟩
    · obtain rfl : k = n := by omega
      go_wp2_with fail
      go_ret
      exact ⟨rfl, HB.out⟩

/-- 'make([]T, n)', as an equation. -/
theorem make_run2 (w : World) (t e : TypeId) (hu : Tryd.prog.underlying t = some (.slice e)) {z : Value} {size bytes : Nat} (hin : (Tryd.prog.info? e).map (fun i => (i.zero, i.size, i.bytes)) = some (some z, size, bytes)) (hzs : z.cells.size = size) (n : Nat) (hn : n ≤ 1000000) (hby : bytes ≤ 1000) :
    Sem.run Tryd.prog (Instr.makeSlice t (.int .i64 (n : Int)) (.int .i64 (n : Int))) w = .ok (.slice (some ⟨w.heap.size, 0, none⟩) n n) (w.alloc (.cells (vrow (n * size) (zc z size)) e)) := by
  obtain ⟨i, hi, g0, g1, g2⟩ := info_parts hin
  have hb : (i.bytes : Int) * (n : Int) ≤ 281474976710656 := by
    have h : i.bytes * n ≤ 1000 * 1000000 := Nat.mul_le_mul (by omega) hn
    have h2 : ((i.bytes * n : Nat) : Int) ≤ 281474976710656 := by omega
    rwa [Int.natCast_mul] at h2
  have hr := run_make (P := Tryd.prog) w t e i z hu hi g0 .i64 .i64 n n (by omega) (Int.le_refl _) hb (by omega)
  simp only [Int.toNat_natCast, g1] at hr
  have hm : madeCells z.cells (n * size) = vrow (n * size) (zc z size) := by
    apply Array.ext_getElem?
    intro j
    by_cases hj : j < n * size
    · rw [vrow_get _ hj]; simp [madeCells, hj, hzs, zc]
    · rw [Array.getElem?_eq_none (by rw [size_madeCells]; omega), Array.getElem?_eq_none (by rw [vrow_size]; omega)]
  rw [hm] at hr
  exact hr
/-- The cells of the places of the first k steps; behind them zeros. -/
def lnG (f : Nat → Int) (k i : Nat) : Value := if i < k * 3 then .int .i64 (lnS f (i % 3) (i / 3)) else .int .i64 0
theorem lnG_step (f : Nat → Int) (k i : Nat) : turn (turn (turn (lnG f k) (k * 3) (.int .i64 (lnS f 0 k))) (k * 3 + 1) (.int .i64 (lnS f 1 k))) (k * 3 + 2) (.int .i64 (lnS f 2 k)) i = lnG f (k + 1) i := by
  unfold turn lnG
  by_cases e2 : i = k * 3 + 2
  · subst e2; rw [if_pos rfl, if_pos (by omega), show (k * 3 + 2) % 3 = 2 by omega, show (k * 3 + 2) / 3 = k by omega]
  · rw [if_neg e2]
    by_cases e1 : i = k * 3 + 1
    · subst e1; rw [if_pos rfl, if_pos (by omega), show (k * 3 + 1) % 3 = 1 by omega, show (k * 3 + 1) / 3 = k by omega]
    · rw [if_neg e1]
      by_cases e0 : i = k * 3
      · subst e0; rw [if_pos rfl, if_pos (by omega), show k * 3 % 3 = 0 by omega, show k * 3 / 3 = k by omega]
      · rw [if_neg e0]
        by_cases h : i < k * 3
        · rw [if_pos h, if_pos (by omega)]
        · rw [if_neg h, if_neg (by omega)]
theorem range_at {n : Nat} {pre post : List Nat} {x : Nat} (h : List.range n = pre ++ x :: post) : pre.length = x ∧ x < n := by
  have h1 : (List.range n)[pre.length]? = some x := by rw [h]; simp
  have h2 := List.getElem?_eq_some_iff.1 h1
  obtain ⟨h3, h4⟩ := h2
  rw [List.getElem_range] at h4
  rw [List.length_range] at h3
  omega
theorem x_vec : (Tryd.prog.info? 36).map (fun i => (i.zero, i.size, i.bytes)) = some (some (.agg #[.int .i64 0, .int .i64 0, .int .i64 0]), 3, 24) := by kernel_rfl

set_option maxRecDepth 100000 in
set_option maxHeartbeats 4000000 in
theorem line_in (m : Nat) (hm : 4 ≤ m) (w : World) (a : Option Addr) (n c : Nat) (f : Nat → Int) (h : VsOk n f) (hS : Sl w 3 a n f) :
    CallsIn Fence.wide m Tryd.prog 11 #[.slice a n c] w fun e W => ∃ G, e = .returned (.tuple #[.slice (some ⟨G, 0, none⟩) (n + 1) (n + 1), .int .i64 0]) ∧ w.heap.size ≤ G ∧ Blk W G 36 ((n + 1) * 3) (lnG f (n + 1)) ∧ Below w.heap.size w W := by
  have hro : Fence.wide.round = none := rfl
  have h1 : 1 ≤ m := by omega
  have hn := h.1
  have HS := Lib.hid hS
  have HOk := Lib.hid h
  clear hS h
  refine callsIn_of_wp_marks Tryd.func11 rfl trivial ?_ hro
  simp only [Tryd.ntmps11, List.size_toArray, List.length_cons, List.length_nil, Nat.reduceAdd, Nat.reduceSub, Array.replicate_succ, Array.replicate_zero, List.push_toArray, List.append_toArray, List.nil_append, List.cons_append]
  have hmk : ∀ W, Sem.run Tryd.prog (Instr.makeSlice 24 (.int .i64 ((n : Int) + 1)) (.int .i64 ((n : Int) + 1))) W = .ok (.slice (some ⟨W.heap.size, 0, none⟩) (n + 1) (n + 1)) (W.alloc (.cells (vrow ((n + 1) * 3) (zc (.agg #[.int .i64 0, .int .i64 0, .int .i64 0]) 3)) 36)) := fun W => make_run2 W 24 36 Tryd.underlying24 x_vec rfl (n + 1) (by omega) (by decide)
  gi_wp2_with fail
  refine ⟨trivial, (callsIn_wide.2 (steps_ok w a n c f HOk.out HS.out)).mono ?_⟩
  rintro e V ⟨rfl, hbV⟩
  have HbV := Lib.hid hbV
  clear hbV
  gi_wp2_with fail
  refine ⟨trivial, (callsIn_wide.2 (placesIt_of _ a n c)).mono ?_⟩
  rintro e V2 ⟨rfl, rfl⟩
  obtain ⟨W0, hW0⟩ : ∃ W0, ((V.alloc (.cells (vrow ((n + 1) * 3) (zc (.agg #[.int .i64 0, .int .i64 0, .int .i64 0]) 3)) 36)).alloc (.cells #[.slice (some ⟨V.heap.size, 0, none⟩) (n + 1) (n + 1)] 24)).alloc (.cells #[.slice a n c] 24) = W0 := ⟨_, rfl⟩
  have hsz : W0.heap.size = V.heap.size + 3 := by rw [← hW0]; simp
  have hG : Blk W0 V.heap.size 36 ((n + 1) * 3) (lnG f 0) := by
    rw [← hW0]
    refine (((Blk.new V _ _ _).alloc _).alloc _).congr fun i _ => ?_
    unfold lnG zc
    rw [if_neg (by omega)]
    have : i % 3 = 0 ∨ i % 3 = 1 ∨ i % 3 = 2 := by omega
    rcases this with h | h | h <;> rw [h] <;> rfl
  have hBx : W0.heap[V.heap.size + 1]? = some (.cells #[.slice (some ⟨V.heap.size, 0, none⟩) (n + 1) (n + 1)] 24 (0, 0)) := by rw [← hW0]; exact al_old (al_1 V _ _) _
  have hBs : W0.heap[V.heap.size + 2]? = some (.cells #[.slice a n c] 24 (0, 0)) := by rw [← hW0]; exact al_2 V _ _ _
  have hbW : Below w.heap.size w W0 := by
    rw [← hW0]
    have h0 := HbV.out.size
    exact ((HbV.out.alloc h0 _).alloc (by simp; omega) _).alloc (by simp; omega) _
  have e2 : ((V.alloc (.cells (vrow ((n + 1) * 3) (zc (.agg #[.int .i64 0, .int .i64 0, .int .i64 0]) 3)) 36)).alloc (.cells #[.slice (some ⟨V.heap.size, 0, none⟩) (n + 1) (n + 1)] 24)).heap.size = V.heap.size + 2 := by simp
  rw [e2, hW0]
  clear hW0 e2
  have HG := Lib.hid hG
  have HBx := Lib.hid hBx
  have HBs := Lib.hid hBs
  have HbW := Lib.hid hbW
  have HSZ := Lib.hid hsz
  have hV : w.heap.size ≤ V.heap.size := HbV.out.size
  clear hG hBx hBs hbW hsz hmk
  gi_wp2_with fail
  refine wp_gives hro h1 (gf := 45) (lb := #[.pointer (some ⟨V.heap.size + 2, 0, none⟩)]) rfl trivial (enters_of Tryd.func45 (by kernel_rfl) rfl)
    (places_gives (m - 1) (by omega) (V.heap.size + 2) V.heap.size a n c f HOk.out W0 (cell_h HBs.out rfl) (HS.out.keep (by decide) HbW.out) (by omega) (fun b o e => by
      obtain ⟨b2, o2, e2, hI⟩ := HS.out (by omega)
      rw [e] at e2; cases e2
      have := hI.lt (by omega)
      omega) (by rw [HSZ.out]; omega)) (fun _ => rfl) (by rw [HSZ.out]; omega)
    (fun pre W => Blk W V.heap.size 36 ((n + 1) * 3) (lnG f pre.length) ∧ W.cell? ⟨V.heap.size + 1, 0, none⟩ = some (.slice (some ⟨V.heap.size, 0, none⟩) (n + 1) (n + 1)) ∧ Below w.heap.size w W)
    (fun s A B h hb => ⟨h.1.keep hb (by rw [HSZ.out]; omega), (hb.cell (p := ⟨V.heap.size + 1, 0, none⟩) (by show V.heap.size + 1 < W0.heap.size; rw [HSZ.out]; omega)).trans h.2.1, h.2.2.trans (hb.mono (by rw [HSZ.out]; omega))⟩)
    ⟨HG.out, cell_h HBx.out rfl, HbW.out⟩
    (fun x W a' W' => a' = { tmps := #[.slice a n c, undef, .slice none 0 0, .int .i64 0, .int .i64 0, .pointer (some ⟨V.heap.size + 1, 0, none⟩), .int .i64 (x : Int), .pointer (some ⟨W.heap.size, 0, none⟩), .slice a n c, .int .i64 0, .int .i64 0, .bool false, undef, .slice a n c, .int .i64 (n : Int), .int .i64 ((n : Int) + 1), .slice (some ⟨V.heap.size, 0, none⟩) (n + 1) (n + 1), .slice a n c, .func (.func 45) #[] #[.pointer (some ⟨V.heap.size + 2, 0, none⟩)], .int .i64 (x : Int), lnV f x, undef, undef, undef, undef, undef], defers := [] } ∧ W' = W.alloc (.cells #[.int .i64 (lnS f 0 x), .int .i64 (lnS f 1 x), .int .i64 (lnS f 2 x)] 36)) ?assign ?body ?done
  case assign =>
    intro l pre x W K hI hw hK
    dsimp only [lnV]
    gi_wp2
    exact hK _ _ ((Below.refl _ _).alloc (Nat.le_refl _) _) ⟨rfl, rfl⟩
  case body =>
    rintro l pre x post a' A W U hxs ⟨rfl, rfl⟩ hU hUs hl ⟨q, hq⟩ ⟨hG, hB, hb⟩
    obtain ⟨hpx, hxn⟩ := range_at hxs
    have hAl := World.alloc_heap_new A (.cells #[.int .i64 (lnS f 0 x), .int .i64 (lnS f 1 x), .int .i64 (lnS f 2 x)] 36)
    have hne : A.heap.size ≠ l := fun e => by
      rw [← e, hAl] at hq
      cases hq
    have hC := (hU _ hne).trans hAl
    have c0 : U.cell? ⟨A.heap.size, 0, none⟩ = some (.int .i64 (lnS f 0 x)) := cell_h hC rfl
    have c1 : U.cell? ⟨A.heap.size, 1, none⟩ = some (.int .i64 (lnS f 1 x)) := cell_h hC rfl
    have c2 : U.cell? ⟨A.heap.size, 2, none⟩ = some (.int .i64 (lnS f 2 x)) := cell_h hC rfl
    have g0 := hG.cell (k := x * 3) (by omega)
    have g1 := hG.cell (k := x * 3 + 1) (by omega)
    have g2 := hG.cell (k := x * 3 + 2) (by omega)
    have z0 := hG.fz (x * 3)
    have z1 := hG.fz (x * 3 + 1)
    have z2 := hG.fz (x * 3 + 2)
    have j0 : (0 : Int) ≤ (x : Int) := by omega
    have j1 : (x : Int) < (n : Int) + 1 := by omega
    have HGb := Lib.hid hG
    have Hbb := Lib.hid hb
    have hV2 := hV
    clear hU hUs hAl hne hC hxs hG hb hq
    dsimp only [lnV]
    gi_wp2
    refine ⟨⟨(((HGb.out.set _ _).set _ _).set _ _).congr (fun i _ => ?_), ((Hbb.out.setCell (p := ⟨V.heap.size, x * 3, none⟩) hV _).setCell (p := ⟨V.heap.size, x * 3 + 1, none⟩) hV _).setCell (p := ⟨V.heap.size, x * 3 + 2, none⟩) hV _⟩, ((Still.set _ _ _ _).trans (Still.set _ _ _ _)).trans (Still.set _ _ _ _)⟩
    rw [hpx]
    exact lnG_step f x i
  case done =>
    intro D W hD hw hI hdef
    obtain ⟨hG, hB, hb⟩ := hI
    have HGb := Lib.hid hG
    have Hbb := Lib.hid hb
    clear hG hb
    gi_wp2
    refine ⟨by simp, .inl ⟨_, _, rfl, run_takeDeferred hdef, ?_⟩⟩
    have hb3 : Below W0.heap.size W (W.putObj D (.deferred none)) := ⟨rfl, rfl, rfl, by simp, fun k hk => World.putObj_heap_other (by omega)⟩
    refine ⟨.tuple #[.slice (some ⟨V.heap.size, 0, none⟩) (n + 1) (n + 1), .int .i64 0], by simp [results, Tryd.f11, go_sem], V.heap.size, rfl, hV, ?_, Hbb.out.trans (hb3.mono (by rw [HSZ.out]; omega))⟩
    have h := HGb.out.keep hb3 (by rw [HSZ.out]; omega)
    rw [List.length_range] at h
    exact h

/-- Line of steps without an error. -/
theorem line_of2 (w : World) (a : Option Addr) (n c : Nat) (f : Nat → Int) (h : VsOk n f) (hS : Sl w 3 a n f) :
    Calls Tryd.prog 11 #[.slice a n c] w fun e W => ∃ G, e = .returned (.tuple #[.slice (some ⟨G, 0, none⟩) (n + 1) (n + 1), .int .i64 0]) ∧ w.heap.size ≤ G ∧ Blk W G 36 ((n + 1) * 3) (lnG f (n + 1)) ∧ Below w.heap.size w W :=
  (callsIn_wide (n := 4)).1 (line_in 4 (Nat.le_refl _) w a n c f h hS)
end Go.Proofs.YtlbffdgojmjijaaDoor
