/-
  WORDS: votes of ranges that are made of a number.
-/
import Derived.Test.YteinabcklmpcjaaPvG
namespace Go.Proofs.Yteinabcklmpcjaa
open Go.RowKit

/-- A list of ranges, turned. -/
def rvF (f : Nat → Int) (n : Nat) (j : Nat) : Int := f ((n - 1 - j / 2) * 2 + j % 2)
theorem rv_even (f : Nat → Int) (n i : Nat) : rvF f n (i * 2) = f ((n - 1 - i) * 2) := by
  unfold rvF
  rw [show i * 2 / 2 = i by omega, show i * 2 % 2 = 0 by omega, Nat.add_zero]
theorem rv_odd (f : Nat → Int) (n i : Nat) : rvF f n (i * 2 + 1) = f ((n - 1 - i) * 2 + 1) := by
  unfold rvF
  rw [show (i * 2 + 1) / 2 = i by omega, show (i * 2 + 1) % 2 = 1 by omega]
theorem rv_0 (f : Nat → Int) (n : Nat) : rvF f (n + 1) 0 = f (n * 2) := rv_even f (n + 1) 0
theorem rv_1 (f : Nat → Int) (n : Nat) : rvF f (n + 1) 1 = f (n * 2 + 1) := rv_odd f (n + 1) 0
theorem rv_ss (f : Nat → Int) (n j : Nat) : rvF f (n + 1) (j + 2) = rvF f n j := by
  unfold rvF
  rw [show n + 1 - 1 - (j + 2) / 2 = n - 1 - j / 2 by omega, show (j + 2) % 2 = j % 2 by omega]
theorem vts_cons (f : Nat → Int) (x : Int) : ∀ n, vts f x (n + 1) = (if f 0 ≤ x ∧ x ≤ f 1 then 1 else 0) + vts (fun j => f (j + 2)) x n
  | 0 => by simp [vts]
  | n + 1 => by
    have ih := vts_cons f x n
    have h : vts f x (n + 1 + 1) = vts f x (n + 1) + if f ((n + 1) * 2) ≤ x ∧ x ≤ f ((n + 1) * 2 + 1) then 1 else 0 := rfl
    have h2 : vts (fun j => f (j + 2)) x (n + 1) = vts (fun j => f (j + 2)) x n + if f ((n + 1) * 2) ≤ x ∧ x ≤ f ((n + 1) * 2 + 1) then 1 else 0 := by
      show vts (fun j => f (j + 2)) x n + (if f (n * 2 + 2) ≤ x ∧ x ≤ f (n * 2 + 1 + 2) then (1 : Int) else 0) = _
      rw [show n * 2 + 2 = (n + 1) * 2 by omega, show n * 2 + 1 + 2 = (n + 1) * 2 + 1 by omega]
    rw [h, ih, h2, Int.add_assoc]
theorem vts_rv (f : Nat → Int) (x : Int) : ∀ n, vts (rvF f n) x n = vts f x n
  | 0 => rfl
  | n + 1 => by
    rw [vts_cons, rv_0, rv_1, show (fun j => rvF f (n + 1) (j + 2)) = rvF f n from funext (rv_ss f n), vts_rv f x n]
    show _ = vts f x n + _
    rw [Int.add_comm]

structure Good (n : Nat) (f : Nat → Int) : Prop where
  n16 : 1 ≤ n ∧ n ≤ 16
  rg : ∀ i, i < n → -1073741824 ≤ f (i * 2) ∧ f (i * 2) ≤ f (i * 2 + 1) ∧ f (i * 2 + 1) ≤ 1073741824
theorem Good.voE0 {n : Nat} {f : Nat → Int} (h : Good n f) {v : Int} (hv : 0 ≤ v ∧ v < n) : voE n f v = 0 := by
  have h1 := h.n16
  unfold voE
  rw [if_neg (by omega), first_zero (fun i hi => ?_), if_neg (by simp), if_pos hv]
  have := h.rg i hi
  show rgErr (f (i * 2)) (f (i * 2 + 1)) (-1073741824) 1073741824 = 0
  rcases rg_ways (f (i * 2)) (f (i * 2 + 1)) (-1073741824) 1073741824 with ⟨g, _⟩ | ⟨g, _⟩ | ⟨_, g⟩
  · omega
  · omega
  · exact g
theorem Good.rv {n : Nat} {f : Nat → Int} (h : Good n f) : Good n (rvF f n) := ⟨h.n16, fun i hi => by
  rw [rv_even, rv_odd]
  exact h.rg _ (by omega)⟩
theorem VoteOut.good {n : Nat} {f : Nat → Int} (h : Good n f) {v lo hi e : Int} (hv : 0 ≤ v ∧ v < n) (ho : VoteOut n f v lo hi e) : ((∀ x, vts f x n < (n : Int) - v) ∧ lo = 0 ∧ hi = 0 ∧ e = 5) ∨ (VoteIs n f ((n : Int) - v) lo hi ∧ e = 0) := by
  rcases ho with ⟨a, _⟩ | ⟨_, b⟩ | ⟨_, b⟩
  · exact absurd (h.voE0 hv) a
  · exact .inl b
  · exact .inr b
theorem VoteIs.unrv {n : Nat} {f : Nat → Int} {need lo hi : Int} (h : VoteIs n (rvF f n) need lo hi) : VoteIs n f need lo hi := by
  obtain ⟨⟨i, hi1, hi2, hi3⟩, ⟨k, hk1, hk2, hk3⟩, h3, h4, h5⟩ := h
  rw [rv_even] at hi2
  rw [rv_odd] at hk2
  rw [vts_rv] at hi3 hk3
  refine ⟨⟨n - 1 - i, by omega, hi2, hi3⟩, ⟨n - 1 - k, by omega, hk2, hk3⟩, fun j hj hn => ?_, fun j hj hn => ?_, h5⟩
  · have := h3 (n - 1 - j) (by omega)
    rw [rv_even, vts_rv, show n - 1 - (n - 1 - j) = j by omega] at this
    exact this hn
  · have := h4 (n - 1 - j) (by omega)
    rw [rv_odd, vts_rv, show n - 1 - (n - 1 - j) = j by omega] at this
    exact this hn
/-- The order does not matter. -/
theorem VoteOut.unrv {n : Nat} {f : Nat → Int} (h : Good n f) {v lo hi e : Int} (hv : 0 ≤ v ∧ v < n) (ho : VoteOut n (rvF f n) v lo hi e) : VoteOut n f v lo hi e := by
  rcases ho.good h.rv hv with ⟨a, b⟩ | ⟨a, b⟩
  · exact .inr (.inl ⟨h.voE0 hv, fun x => by rw [← vts_rv]; exact a x, b⟩)
  · exact .inr (.inr ⟨h.voE0 hv, a.unrv, b⟩)
/-- At most as many wrong ones: the number lies in it. -/
theorem VoteOut.holds {n : Nat} {f : Nat → Int} (h : Good n f) {v lo hi e N bad : Int} (hv : 0 ≤ v ∧ v < n) (hN : (n : Int) - bad ≤ vts f N n) (ho : VoteOut n f v lo hi e) : (e = 5 ∧ lo = 0 ∧ hi = 0 ∧ ¬bad ≤ v) ∨ (e = 0 ∧ (bad ≤ v → lo ≤ N ∧ N ≤ hi)) := by
  rcases ho.good h hv with ⟨a, rfl, rfl, rfl⟩ | ⟨a, rfl⟩
  · have := a N
    exact .inl ⟨rfl, rfl, rfl, by omega⟩
  · refine .inr ⟨rfl, fun hb => ?_⟩
    obtain ⟨⟨i, hi, hix, hiv⟩, k, hk, hkx, hkv⟩ := vts_ends (f := f) (n := n) (need := (n : Int) - v) (x := N) (by omega) (by omega)
    have := a.least i hi hiv
    have := a.most k hk hkv
    omega
/-- A greater number of wrong ones gives a wider range. -/
theorem VoteOut.wide {n : Nat} {f : Nat → Int} (h : Good n f) {v lo hi lo' hi' e' : Int} (hv : 0 ≤ v ∧ v + 1 < n) (ho : VoteOut n f v lo hi 0) (ho' : VoteOut n f (v + 1) lo' hi' e') : e' = 0 ∧ lo' ≤ lo ∧ hi ≤ hi' := by
  rcases ho.good h (by omega) with ⟨_, _, _, a⟩ | ⟨a, _⟩
  · omega
  obtain ⟨i, hi1, rfl, hi3⟩ := a.isLo
  obtain ⟨k, hk1, rfl, hk3⟩ := a.isHi
  rcases ho'.good h (by omega) with ⟨b, _⟩ | ⟨b, rfl⟩
  · have := b (f (i * 2)); omega
  · exact ⟨rfl, b.least i hi1 (by omega), b.most k hk1 (by omega)⟩

/-- The ranges of a number. -/
def rgLo (N : Int) (g : Nat → Int) (i : Nat) : Int := if g (i * 3 + 2) % 4 = 0 then N + 1 + g (i * 3) else N - g (i * 3)
def rgHi (N : Int) (g : Nat → Int) (i : Nat) : Int := if g (i * 3 + 2) % 4 = 0 then N + 1 + g (i * 3) + g (i * 3 + 1) else N + g (i * 3 + 1)
def rgF (N : Int) (g : Nat → Int) (j : Nat) : Int := if j % 2 = 0 then rgLo N g (j / 2) else rgHi N g (j / 2)
theorem rgF_0 (N : Int) (g : Nat → Int) (i : Nat) : rgF N g (i * 2) = rgLo N g i := by
  unfold rgF; rw [if_pos (by omega), show i * 2 / 2 = i by omega]
theorem rgF_1 (N : Int) (g : Nat → Int) (i : Nat) : rgF N g (i * 2 + 1) = rgHi N g i := by
  unfold rgF; rw [if_neg (by omega), show (i * 2 + 1) / 2 = i by omega]
/-- How many of them are wrong. -/
def bdC (g : Nat → Int) : Nat → Nat
  | 0 => 0
  | i + 1 => if g (i * 3 + 2) % 4 = 0 then bdC g i + 1 else bdC g i
theorem bdC_le (g : Nat → Int) : ∀ n, bdC g n ≤ n
  | 0 => Nat.le_refl _
  | n + 1 => by have := bdC_le g n; simp only [bdC]; split <;> omega
theorem rg_good {N : Int} {g : Nat → Int} {n : Nat} (hN : -32768 ≤ N ∧ N ≤ 32767) (hg : ∀ i, i < n * 3 → 0 ≤ g i ∧ g i ≤ 255) (hn : 1 ≤ n ∧ n ≤ 8) : Good n (rgF N g) := ⟨by omega, fun i hi => by
  have h0 := hg (i * 3) (by omega)
  have h1 := hg (i * 3 + 1) (by omega)
  rw [rgF_0, rgF_1]
  unfold rgLo rgHi
  split <;> omega⟩
theorem rg_votes {N : Int} {g : Nat → Int} : ∀ {n : Nat}, (∀ i, i < n * 3 → 0 ≤ g i ∧ g i ≤ 255) → (n : Int) - bdC g n ≤ vts (rgF N g) N n
  | 0, _ => by simp [vts, bdC]
  | n + 1, hg => by
    have ih := rg_votes (N := N) (g := g) (n := n) (fun i hi => hg i (by omega))
    have h0 := hg (n * 3) (by omega)
    have h1 := hg (n * 3 + 1) (by omega)
    simp only [vts, bdC]
    rw [rgF_0, rgF_1]
    unfold rgLo rgHi
    by_cases hb : g (n * 3 + 2) % 4 = 0
    · simp only [if_pos hb]
      rw [if_neg (by omega)]
      push_cast
      omega
    · simp only [if_neg hb]
      rw [if_pos (by omega)]
      push_cast
      omega

/-- Rows of ranges. -/
def rcl (f : Nat → Int) (n : Nat) : List Value := (List.range (n * 2)).map fun j => .int .i64 (f j)
theorem rcl_length (f : Nat → Int) (n : Nat) : (rcl f n).length = n * 2 := by unfold rcl; simp
theorem rcl_succ (f : Nat → Int) (n : Nat) : rcl f (n + 1) = rcl f n ++ [.int .i64 (f (n * 2)), .int .i64 (f (n * 2 + 1))] := by
  unfold rcl
  rw [show (n + 1) * 2 = n * 2 + 1 + 1 by omega, List.range_succ, List.range_succ, List.map_append, List.map_append, List.append_assoc]
  rfl
theorem rcl_rv (f : Nat → Int) (n : Nat) : rcl (rvF f (n + 1)) (n + 1) = [.int .i64 (f (n * 2)), .int .i64 (f (n * 2 + 1))] ++ rcl (rvF f n) n := by
  unfold rcl
  rw [show (n + 1) * 2 = 2 + n * 2 by omega, List.range_add, List.map_append, List.map_map]
  have h0 : (List.range 2).map (fun j => Value.int .i64 (rvF f (n + 1) j)) = [.int .i64 (f (n * 2)), .int .i64 (f (n * 2 + 1))] := by
    show [Value.int .i64 (rvF f (n + 1) 0), .int .i64 (rvF f (n + 1) 1)] = _
    rw [rv_0, rv_1]
  rw [h0]
  congr 1
  refine List.map_congr_left fun j _ => ?_
  show Value.int .i64 (rvF f (n + 1) (2 + j)) = _
  rw [Nat.add_comm 2 j, rv_ss]
theorem rcl_get (f : Nat → Int) {n j : Nat} (h : j < n * 2) : (rcl f n)[j]? = some (.int .i64 (f j)) := by
  unfold rcl
  rw [List.getElem?_map, List.getElem?_range h]
  rfl
/-- A row of its own of ranges is a slice of them. -/
theorem own_SlR {W : World} {B : Nat} {v : Value} {f : Nat → Int} {n : Nat} (h : W.ownsRow B 25 2 v n (rcl f n)) : ∃ x c, v = .slice x n c ∧ Sl W 2 x n f := by
  cases n with
  | zero =>
    rcases h.2 with ⟨rfl, _⟩ | ⟨g, cap, cur, rfl, _⟩
    · exact ⟨none, 0, rfl, fun h => absurd h (by decide)⟩
    · exact ⟨some ⟨g, 0, none⟩, cap, rfl, fun h => absurd h (by decide)⟩
  | succ n =>
    obtain ⟨g, cap, rfl⟩ := ownsRow_succ h
    refine ⟨some ⟨g, 0, none⟩, cap, rfl, fun _ => ⟨g, 0, rfl, fun i hi => ?_⟩⟩
    rw [Nat.zero_add, World.ownsRow.cellAt h i hi, rcl_get f hi]
end Go.Proofs.Yteinabcklmpcjaa
