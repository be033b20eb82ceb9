/-
  WALKS: few; the reference's Check.
-/
import Derived.Test.YtmfdgnjhlhkbbaaPoE
namespace Go.Proofs.Ytmfdgnjhlhkbbaa
open Go.RowKit

/-- The ints of n bounds, as cells. -/
def frow (f : Nat → Int) (n : Nat) : List Value := (List.range (n * 3)).map fun i => .int .i64 (f i)
theorem frow_succ (f : Nat → Int) (k : Nat) : frow f (k + 1) = frow f k ++ [.int .i64 (f (k * 3)), .int .i64 (f (k * 3 + 1)), .int .i64 (f (k * 3 + 2))] := by
  unfold frow
  rw [show (k + 1) * 3 = k * 3 + 3 by omega, List.range_add, List.map_append]
  rfl
theorem frow_get (f : Nat → Int) {k i : Nat} (h : i < k * 3) : (frow f k)[i]? = some (.int .i64 (f i)) := by simp [frow, h]
/-- A row of bounds that is owned is a slice of them. -/
theorem own_Sl {W : World} {B : Nat} {e : TypeId} {v : Value} {n : Nat} {f : Nat → Int} (h : W.ownsRow B e 3 v n (frow f n)) : ∃ x c, v = .slice x n c ∧ Sl W 3 x n f := by
  cases n with
  | zero =>
    rcases h.2 with ⟨rfl, _⟩ | ⟨g, cap, cur, rfl, _⟩
    · exact ⟨none, 0, rfl, fun h => absurd h (by decide)⟩
    · exact ⟨some ⟨g, 0, none⟩, cap, rfl, fun h => absurd h (by decide)⟩
  | succ m =>
    obtain ⟨g, cap, rfl⟩ := ownsRow_succ h
    refine ⟨some ⟨g, 0, none⟩, cap, rfl, fun _ => ⟨g, 0, rfl, fun i hi => ?_⟩⟩
    rw [Nat.zero_add, World.ownsRow.cellAt h i hi, frow_get f hi]

/-- Where the statements say something about bounds. -/
def fewB (E : Int) (n : Nat) : Bool := decide (¬(12 < E ∧ E ≤ 64) ∧ ¬(60 < n ∧ n ≤ 256) ∧ n ≤ 300)

set_option maxRecDepth 100000 in
set_option maxHeartbeats 4000000 in
theorem few_no (w : World) (E : Int) (a : Option Addr) (n c : Nat) (h : fewB E n = false) (hn : n ≤ 9223372036854775807) :
    Calls Try.prog 35 #[.int .i64 E, .slice a n c] w fun e W' => e = .returned (.tuple #[.slice none 0 0, .bool false]) ∧ W' = w := by
  have h2 : (12 < E ∧ E ≤ 64) ∨ (E ≤ 12 ∧ 60 < n ∧ n ≤ 256) ∨ (64 < E ∧ 60 < n ∧ n ≤ 256) ∨ (E ≤ 12 ∧ 300 < n) ∨ (64 < E ∧ 300 < n) := by
    unfold fewB at h
    rw [decide_eq_false_iff_not] at h
    omega
  clear h
  rcases h2 with ⟨h1, h2⟩ | ⟨h1, h2, h3⟩ | ⟨h1, h2, h3⟩ | ⟨h1, h2⟩ | ⟨h1, h2⟩
  all_goals
    go_enter Try.func35, Try.ntmps35
    go_wp2
    exact bodyPost_ret (v := .tuple #[.slice none 0 0, .bool false]) (by simp [results, Try.f35, go_sem]) rfl ⟨rfl, rfl⟩

set_option maxRecDepth 100000 in
set_option maxHeartbeats 4000000 in
theorem few_in (w : World) (E : Int) (a : Option Addr) (n c : Nat) (f : Nat → Int) (hn : n ≤ 300) (h2 : (E ≤ 12 ∧ n ≤ 60) ∨ (E ≤ 12 ∧ 256 < n) ∨ (64 < E ∧ n ≤ 60) ∨ (64 < E ∧ 256 < n)) (hS : Sl w 3 a n f) :
    Calls Try.prog 35 #[.int .i64 E, .slice a n c] w fun e W' => ∃ v, e = .returned (.tuple #[v, .bool true]) ∧ W'.ownsRow w.heap.size 117 3 v n (frow f n) ∧ Below w.heap.size w W' := by
  obtain ⟨i0, hi, hz0, hz1, hz2⟩ := info_parts x_rbound
  have HS := Lib.hid hS
  clear hS
  rcases h2 with ⟨h1, h2⟩ | ⟨h1, h2⟩ | ⟨h1, h2⟩ | ⟨h1, h2⟩
  all_goals
    go_enter Try.func35, Try.ntmps35
    go_wp2_with fail
    go_loopw [6, 32] (fun v i wr => ∃ k : Nat, k ≤ n ∧ i = .int .i64 k ∧ Hid (wr.ownsRow w.heap.size 117 3 v k (frow f k)) ∧ Hid (Below w.heap.size w wr)) (fun _ i _ => n - (intOf i).toNat)
    case atStart => exact ⟨0, by omega, rfl, ⟨rfl, .inl ⟨rfl, rfl⟩⟩, Below.refl _ _⟩
    case round =>
      obtain ⟨k, hk, rfl, HR, HB⟩ := hrel
      by_cases hlt : k < n
      · obtain ⟨b, o, rfl, hI⟩ := HS.out (by omega)
        have hI2 := hI.keep HB.out (hI.lt (by omega))
        have d0 := hI2 (k * 3) (by omega)
        have d1 := hI2.at (k * 3) 1 (by omega)
        have d2 := hI2.at (k * 3) 2 (by omega)
        clear hI hI2
        have HF := Lib.hid (frow_succ f k)
        generalize f (k * 3) = F at d0 HF ⊢
        generalize f (k * 3 + 1) = T at d1 HF ⊢
        generalize f (k * 3 + 2) = M at d2 HF ⊢
        go_wp2_with (at_builtin; refine wpList_append_own _ rfl _ _ 38 rfl w.heap.size 117 i0 (.agg #[.int .i64 0, .int .i64 0, .int .i64 0]) 3 24 Try.underlying38 hi hz0 hz1 hz2 rfl (by decide) _ k _ rfl ((HR.out.alloc _).alloc _) ⟨wr.heap.size + 1, 0, none⟩ 1 1 [.int .i64 F, .int .i64 T, .int .i64 M] rfl rfl (by have := cells_three (wr.alloc (.cells #[.int .i64 F, .int .i64 T, .int .i64 M] 64)) (.int .i64 F) (.int .i64 T) (.int .i64 M) 117; rwa [World.size_alloc] at this) (by simp [Value.oneCell']) (by unfold maxLen; omega) (by omega) (by have := HB.out.size; simp; omega) ?_; intro v' w1 hown' hgrow _)
        exact ⟨⟨k + 1, by omega, by go_num, by rw [HF.out]; exact hown', ((HB.out.alloc HB.out.size _).alloc (by have := HB.out.size; simp; omega) _).grown hgrow (by have := HB.out.size; simp; omega) (fun j hj => (HR.out.lt j hj).1)⟩, by simp [intOf]; omega⟩
      · obtain rfl : k = n := by omega
        go_wp2
        refine bodyPost_ret (v := .tuple #[_, .bool true]) (by simp [results, Try.f35, go_sem]; rfl) rfl ?_
        exact ⟨_, rfl, HR.out, HB.out⟩
theorem few_ok (w : World) (E : Int) (a : Option Addr) (n c : Nat) (f : Nat → Int) (h : fewB E n = true) (hS : Sl w 3 a n f) :
    Calls Try.prog 35 #[.int .i64 E, .slice a n c] w fun e W' => ∃ x c', e = .returned (.tuple #[.slice x n c', .bool true]) ∧ Sl W' 3 x n f ∧ Below w.heap.size w W' := by
  unfold fewB at h
  rw [decide_eq_true_iff] at h
  refine (few_in w E a n c f (by omega) (by omega) hS).mono ?_
  rintro e w' ⟨v, rfl, ho, hb⟩
  obtain ⟨x, c', rfl, hx⟩ := own_Sl ho
  exact ⟨x, c', rfl, hx, hb⟩
end Go.Proofs.Ytmfdgnjhlhkbbaa
