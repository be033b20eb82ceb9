/-
  WORDS: the pairs of an alignment; WALKS: Align.
-/
import Derived.Test.YtonlamkpehakdaaPmI
import Derived.Laws.AppendOwn
namespace Go.Proofs.Ytonlamkpehakdaa
open Go.RowKit

/-- The pairs as they are found, the last one first: from the first i welds and k calls on. -/
def bkP (T : Nat → Nat → Int) (L F M : Int) (g h : Nat → Int) : Nat → Nat → Nat → List (Nat × Nat)
  | 0, _, _ => []
  | r + 1, i, k => if 0 < i ∧ 0 < k then
      (if (best0 T (stp L F M g h i k)).1 < i ∧ (best0 T (stp L F M g h i k)).2.1 < k then [((best0 T (stp L F M g h i k)).1, (best0 T (stp L F M g h i k)).2.1)] else []) ++
        bkP T L F M g h r (best0 T (stp L F M g h i k)).1 (best0 T (stp L F M g h i k)).2.1
    else []
/-- The cells of pairs. -/
def pcF (l : List (Nat × Nat)) (p : Nat) : Int := if p % 2 = 0 then ((l[p / 2]?.getD (0, 0)).1 : Int) else ((l[p / 2]?.getD (0, 0)).2 : Int)
def pcells (l : List (Nat × Nat)) : List Value := (List.range (l.length * 2)).map fun p => Value.int .i64 (pcF l p)
theorem pcells_length (l : List (Nat × Nat)) : (pcells l).length = l.length * 2 := by simp [pcells]
theorem pcF_old (l : List (Nat × Nat)) (x : Nat × Nat) {p : Nat} (h : p < l.length * 2) : pcF (l ++ [x]) p = pcF l p := by
  unfold pcF
  rw [List.getElem?_append_left (by omega)]
theorem pcells_snoc (l : List (Nat × Nat)) (x : Nat × Nat) : pcells (l ++ [x]) = pcells l ++ [.int .i64 (x.1 : Int), .int .i64 (x.2 : Int)] := by
  unfold pcells
  rw [List.length_append, List.length_singleton, show (l.length + 1) * 2 = l.length * 2 + 1 + 1 by omega, List.range_succ, List.range_succ, List.map_append, List.map_append, List.append_assoc]
  congr 1
  · exact List.map_congr_left fun p hp => by rw [pcF_old l x (by simpa using hp)]
  · have e1 : (l.length * 2) / 2 = l.length := by omega
    have e2 : (l.length * 2 + 1) / 2 = l.length := by omega
    simp only [List.map_cons, List.map_nil, List.singleton_append]
    unfold pcF
    rw [e1, e2, List.getElem?_append_right (Nat.le_refl _)]
    simp
theorem pcF_rev (l : List (Nat × Nat)) {p : Nat} (h : p < l.length * 2) : rvE l.length (pcF l) p = pcF l.reverse p := by
  unfold rvE pcF
  rw [if_pos (by omega), List.getElem?_reverse (by omega), show ((l.length - 1 - p / 2) * 2 + p % 2) / 2 = l.length - 1 - p / 2 by omega, show ((l.length - 1 - p / 2) * 2 + p % 2) % 2 = p % 2 by omega]

/-- What a row of its own is, turned about. -/
theorem own_mix {w : World} {base b k cap : Nat} {l : List (Nat × Nat)} (h : w.ownsRow base 107 2 (.slice (some ⟨b, 0, none⟩) k cap) k (pcells l)) : k = l.length ∧ base ≤ b ∧ k ≤ cap ∧ cap ≤ maxLen ∧ ∃ G, Blk w b 107 (cap * 2) (mixG k (pcF l) G) := by
  obtain ⟨hl, h⟩ := h
  rw [pcells_length] at hl
  rcases h with ⟨h, _⟩ | ⟨g, cap', cur, hv, h1, h2, h3, h4, h5, h6⟩
  · cases h
  · cases hv
    refine ⟨by omega, h1, h3, h4, fun p => cur[p]!, ?_⟩
    unfold Blk
    rw [h2]
    congr 2
    apply Array.ext_getElem?
    intro p
    by_cases hp : p < cap * 2
    · rw [vrow_get _ hp]
      unfold mixG
      by_cases h7 : p < k * 2
      · rw [if_pos h7]
        have e1 : cur.toList[p]? = (pcells l)[p]? := by rw [← h6, List.getElem?_take, if_pos h7]
        rw [Array.getElem?_toList] at e1
        rw [e1]
        have : p < l.length * 2 := by omega
        simp [pcells, this]
      · rw [if_neg h7]
        simp [show p < cur.size by omega]
    · rw [Array.getElem?_eq_none (by omega), Array.getElem?_eq_none (by rw [vrow_size]; omega)]
theorem mix_own {w : World} {base b k cap : Nat} {l : List (Nat × Nat)} {G : Nat → Value} (h : Blk w b 107 (cap * 2) (mixG k (rvE k (pcF l)) G)) (hk : k = l.length) (h1 : base ≤ b) (h3 : k ≤ cap) (h4 : cap ≤ maxLen) :
    w.ownsRow base 107 2 (.slice (some ⟨b, 0, none⟩) k cap) k (pcells l.reverse) := by
  refine ⟨by rw [pcells_length, List.length_reverse, hk], .inr ⟨b, cap, _, rfl, h1, h, h3, h4, vrow_size _ _, ?_⟩⟩
  apply List.ext_getElem?
  intro p
  rw [List.getElem?_take]
  by_cases hp : p < k * 2
  · rw [if_pos hp, Array.getElem?_toList, vrow_get _ (by omega), mix_at _ _ hp, hk, pcF_rev l (by omega)]
    have : p < l.length * 2 := by omega
    simp [pcells, this]
  · rw [if_neg hp, List.getElem?_eq_none (by rw [pcells_length, List.length_reverse]; omega)]
end Go.Proofs.Ytonlamkpehakdaa
