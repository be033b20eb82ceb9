/-
  WORDS: the cells of turns; slices.SortFunc of turns.
-/
import Derived.Test.YteinabcklmpcjaaPmK
import Derived.Test.YteinabcklmpcjaaPvD
import Derived.RangeFuncBox
import Derived.OwnWalk
import Derived.Laws.AppendOwn
import Derived.Test.YteinabcklmpcjaaShelf3
namespace Go.Proofs.Yteinabcklmpcjaa
open Go.RowKit

/-- The cells of a turn, of turns. -/
def encT (t : Int × Int) : List Value := [.int .i64 t.1, .int .i64 t.2]
def tcells (L : List (Int × Int)) : List Value := L.flatMap encT
theorem tcells_append (a b : List (Int × Int)) : tcells (a ++ b) = tcells a ++ tcells b := by simp [tcells]
theorem tcells_length : ∀ L : List (Int × Int), (tcells L).length = L.length * 2
  | [] => rfl
  | t :: L => by
    have := tcells_length L
    simp only [tcells, List.flatMap_cons, List.length_append, encT, List.length_cons, List.length_nil] at this ⊢
    omega
theorem tcells_get : ∀ (L : List (Int × Int)) (k : Nat), k < L.length * 2 → (tcells L)[k]? = some ((encT (T_of L (k / 2)))[k % 2]!)
  | [], k, h => by simp at h
  | t :: L, k, h => by
    have e : tcells (t :: L) = encT t ++ tcells L := by simp [tcells]
    rw [e]
    match k, h with
    | 0, _ => simp [encT, T_of]
    | 1, _ => simp [encT, T_of]
    | k + 2, h =>
      rw [List.getElem?_append_right (by simp [encT])]
      have h2 := tcells_get L k (by simp only [List.length_cons] at h; omega)
      rw [show k + 2 - (encT t).length = k by simp [encT], h2, show (k + 2) / 2 = k / 2 + 1 by omega, show (k + 2) % 2 = k % 2 by omega]
      rfl
theorem cells_four (W : World) (a b c d : Value) (t : TypeId) : ∀ (j : Nat) (u : Value), [a, b, c, d][j]? = some u → (W.alloc (.cells #[a, b, c, d] t)).cell? ((⟨W.heap.size, 0, none⟩ : Addr).add j) = some u := by
  intro j u h
  have hh := World.alloc_heap_new W (.cells #[a, b, c, d] t)
  match j, h with
  | 0, h => rw [show (⟨W.heap.size, 0, none⟩ : Addr).add 0 = ⟨W.heap.size, 0, none⟩ by simp [Addr.add], cell_h hh rfl]; simpa using h
  | 1, h => rw [show (⟨W.heap.size, 0, none⟩ : Addr).add 1 = ⟨W.heap.size, 1, none⟩ by simp [Addr.add], cell_h hh rfl]; simpa using h
  | 2, h => rw [show (⟨W.heap.size, 0, none⟩ : Addr).add 2 = ⟨W.heap.size, 2, none⟩ by simp [Addr.add], cell_h hh rfl]; simpa using h
  | 3, h => rw [show (⟨W.heap.size, 0, none⟩ : Addr).add 3 = ⟨W.heap.size, 3, none⟩ by simp [Addr.add], cell_h hh rfl]; simpa using h
theorem x_turn : (Try.prog.info? 124).map (fun i => (i.zero, i.size, i.bytes)) = some (some (.agg #[.int .i64 0, .int .i64 0]), 2, 16) := by kernel_rfl

theorem turn_swo : Go.Sort.SWO (ltOf turnCmp) where
  irrefl x := by unfold ltOf; rw [decide_eq_false_iff_not, turnCmp_lt]; omega
  trans x y z h1 h2 := by unfold ltOf at *; rw [decide_eq_true_iff, turnCmp_lt] at *; omega
  ntrans x y z h1 h2 := by unfold ltOf at *; rw [decide_eq_false_iff_not, turnCmp_lt] at *; omega
theorem frozen_own {w : World} {b : Nat} {cs : Array Value} {t : TypeId} (h : w.heap[b]? = some (.cells cs t (0, 0))) (o : Nat) : w.frozen? ⟨b, o, none⟩ = false := by simp [World.frozen?, h]
/-- A world of the sort's: nothing old has changed but the row. -/
theorem sort_below (w : World) (blk base m : Nat) (dk : Array (Int × Int)) (os : Array Obj) (hb : base ≤ blk) (hbs : base ≤ w.heap.size) : Below base w (sortWorldK encT 2 w blk 0 m dk os) := by
  refine ⟨rfl, rfl, rfl, ?_, fun k hk => ?_⟩
  · exact size_sortWorldK_c encT 2 w blk 0 m dk os
  · show ((w.heap.modify blk _) ++ os)[k]? = w.heap[k]?
    rw [Array.getElem?_append_left (by rw [Array.size_modify]; omega), Array.getElem?_modify, if_neg (by omega)]

set_option maxRecDepth 100000 in
set_option maxHeartbeats 4000000 in
theorem sort_turns (W : World) (g cap base : Nat) (L0 : List (Int × Int)) (hO : W.ownsRow base 124 2 (.slice (some ⟨g, 0, none⟩) L0.length cap) L0.length (tcells L0)) (hN : L0.length ≤ 32) (hbase : base ≤ W.heap.size) :
    Calls Try.prog 88 #[.slice (some ⟨g, 0, none⟩) L0.length cap, .func (.func 89) #[] #[]] W fun e w' => e = .returned (.tuple #[]) ∧ ∃ L, L.Perm L0 ∧ L.Pairwise (fun a b => ¬turnCmp b a < 0) ∧
      (∀ k, k < L0.length → w'.cell? ⟨g, k * 2, none⟩ = some (.int .i64 (T_of L k).1) ∧ w'.cell? ⟨g, k * 2 + 1, none⟩ = some (.int .i64 (T_of L k).2)) ∧ base ≤ g ∧ g < w'.heap.size ∧ Below base W w' := by
  obtain ⟨hl, hO2⟩ := hO
  have hO3 : ∃ cur, base ≤ g ∧ W.heap[g]? = some (.cells cur 124 (0, 0)) := by
    rcases hO2 with ⟨h, _⟩ | ⟨g', cap', cur, h, h1, h2, _⟩
    · cases h
    · cases h; exact ⟨cur, h1, h2⟩
  obtain ⟨cur, hg, hh⟩ := hO3
  have hgl : g < W.heap.size := (Array.getElem?_eq_some_iff.1 hh).1
  have hsz : L0.toArray.size = L0.length := by simp
  have hH : Go.Sort.HoldsK encT 2 W g 0 L0.toArray := by
    intro j hj
    rw [Go.Sort.size_flatK, hsz] at hj
    refine ⟨?_, frozen_own hh _⟩
    rw [World.ownsRow.cellAt ⟨hl, hO2⟩ (0 + j) (by omega), Nat.zero_add, tcells_get L0 j hj, Go.Sort.get_flatK _ _ _ _ (by rw [hsz]; exact hj)]
    have he : L0.toArray[j / 2]! = T_of L0 (j / 2) := by rw [getElem!_pos _ _ (by simp; omega), T_get (by omega)]; simp
    rw [he]
    rfl
  have eg : ∀ args w, (callFunc 89 args).run Try.prog w = .ok (.enter 89 args) w := enters_of Try.func89 (by kernel_rfl) rfl
  have hcmp : CmpLays Try.prog 89 #[] encT 2 turnCmp g 0 L0.toArray.size W := fun _ _ _ _ x y => turns1_of _ x.1 x.2 y.1 y.2
  have hcon := AnyQ.slices_SortFunc Try.sortTurn 2 Try.isAgg124 Try.sizeOf124 encT (fun _ => rfl) (fun x v hv => by simp [encT] at hv; rcases hv with rfl | rfl <;> rfl) turnCmp turn_swo 89 #[] g 0 cap L0.toArray W eg hcmp hH hgl (by rw [hsz]; omega)
  change Calls Try.prog 88 _ _ _ at hcon
  rw [hsz] at hcon
  refine hcon.mono ?_
  rintro e w' ⟨rfl, d', m, os, hp, hs, rfl⟩
  obtain ⟨hp1, _, hp3⟩ := hp
  rw [hsz] at hp1
  have hH2 := holdsK_sortWorldK_c encT 2 W g 0 L0.toArray d' m os hH hgl (by rw [hp1, hsz])
  have hT : ∀ k, k < L0.length → d'[k]! = T_of d'.toList k := fun k hk => by
    rw [getElem!_pos _ _ (by omega), T_get (by simpa using (by omega : k < d'.size))]; simp
  refine ⟨rfl, d'.toList, ?_, ?_, fun k hk => ⟨?_, ?_⟩, hg, ?_, sort_below W g base m d' os hg hbase⟩
  · have e1 : d'.extract 0 L0.length = d' := by rw [← hp1]; exact Array.extract_size
    have e2 : L0.toArray.extract 0 L0.length = L0.toArray := by rw [← hsz]; exact Array.extract_size
    rw [e1, e2] at hp3
    simpa using hp3
  · rw [List.pairwise_iff_getElem]
    intro i j hi hj hij
    have hj2 : j < L0.length := by rw [← hp1]; simpa using hj
    have h := hs i j (Nat.zero_le _) hij hj2
    rw [hT i (by omega), hT j hj2, T_get hi, T_get hj] at h
    unfold ltOf at h
    rw [decide_eq_false_iff_not] at h
    exact h
  · have h := (hH2 (k * 2) (by rw [Go.Sort.size_flatK]; omega)).1
    rw [Nat.zero_add, Go.Sort.get_flatK _ _ _ _ (by omega), show k * 2 / 2 = k by omega, show k * 2 % 2 = 0 by omega, hT k hk] at h
    exact h
  · have h := (hH2 (k * 2 + 1) (by rw [Go.Sort.size_flatK]; omega)).1
    rw [Nat.zero_add, Go.Sort.get_flatK _ _ _ _ (by omega), show (k * 2 + 1) / 2 = k by omega, show (k * 2 + 1) % 2 = 1 by omega, hT k hk] at h
    exact h
  · exact Nat.lt_of_lt_of_le hgl (size_sortWorldK_c encT 2 W g 0 m d' os)
end Go.Proofs.Yteinabcklmpcjaa
