/-
  WORDS: strength: what the functions of plans return, over the ints of their arguments; an accepted plan leaves no less than the bound; Greedy's plan is accepted.
-/
import Derived.Test.YtlphlbgbbblnpaaGreatDoorStA
import Derived.Test.YtlphlbgbbblnpaaGreatDoorPlA
namespace Go.Proofs.YtlphlbgbbblnpaaGreatDoor
open Go.RowKit

/-- The error of a job (its four ints: Risk, Days, Ready, Due), and of jobs. -/
def jbE (f : Nat → Int) (i : Nat) : Int := if (0 ≤ f (i * 4) ∧ f (i * 4) ≤ 1000000) ∧ (1 ≤ f (i * 4 + 1) ∧ f (i * 4 + 1) ≤ 365) ∧ (0 ≤ f (i * 4 + 2) ∧ f (i * 4 + 2) ≤ 365) ∧ (0 ≤ f (i * 4 + 3) ∧ f (i * 4 + 3) ≤ 365) then 0 else 1
def jsE (f : Nat → Int) (n : Nat) (C N : Int) : Int := if 24 < n then 4 else if (1 ≤ C ∧ C ≤ 4) ∧ 0 ≤ N ∧ N ≤ 365 then first (jbE f) n else 1
def rsk (f : Nat → Int) (n : Nat) : Int := si n fun i => f (i * 4)
/-- The error of a slot (Job, Crew, Start) behind others. -/
def twE (g : Nat → Int) (x : Int) (k : Nat) : Int := if g (k * 3) = x then 8 else 0
def ovE (f g : Nat → Int) (c s d : Int) (k : Nat) : Int := if g (k * 3 + 1) = c ∧ s < g (k * 3 + 2) + f ((g (k * 3)).toNat * 4 + 1) ∧ g (k * 3 + 2) < s + d then 7 else 0
def slE (f g : Nat → Int) (n : Nat) (C N : Int) (i : Nat) : Int :=
  if (0 ≤ g (i * 3) ∧ g (i * 3) < n) ∧ (0 ≤ g (i * 3 + 1) ∧ g (i * 3 + 1) < C) ∧ 0 ≤ g (i * 3 + 2) ∧ g (i * 3 + 2) ≤ N then
    if first (twE g (g (i * 3))) i = 0 then
      if f ((g (i * 3)).toNat * 4 + 2) ≤ g (i * 3 + 2) ∧ g (i * 3 + 2) + f ((g (i * 3)).toNat * 4 + 1) ≤ min (f ((g (i * 3)).toNat * 4 + 3)) N then first (ovE f g (g (i * 3 + 1)) (g (i * 3 + 2)) (f ((g (i * 3)).toNat * 4 + 1))) i else 91
    else 8
  else 1
def lfE (f g : Nat → Int) (n p : Nat) (C N : Int) : Int := first (slE f g n C N) p
def tkn (f g : Nat → Int) (p : Nat) : Int := si p fun i => f ((g (i * 3)).toNat * 4)
/-- The bound at a price of L/E, in parts of E. -/
def bdI (f : Nat → Int) (n : Nat) (C N L E : Int) : Int := max 0 (rsk f n * E - C * N * L - si n fun i => max 0 (f (i * 4) * E - f (i * 4 + 1) * L))

theorem jok_of {f : Nat → Int} {n : Nat} {C N : Int} (h : jsE f n C N = 0) : n ≤ 24 ∧ (1 ≤ C ∧ C ≤ 4) ∧ (0 ≤ N ∧ N ≤ 365) ∧ ∀ i, i < n → (0 ≤ f (i * 4) ∧ f (i * 4) ≤ 1000000) ∧ (1 ≤ f (i * 4 + 1) ∧ f (i * 4 + 1) ≤ 365) ∧ (0 ≤ f (i * 4 + 2) ∧ f (i * 4 + 2) ≤ 365) ∧ (0 ≤ f (i * 4 + 3) ∧ f (i * 4 + 3) ≤ 365) := by
  unfold jsE at h
  split at h
  · omega
  · split at h
    · rename_i h1 h2
      refine ⟨by omega, h2.1, h2.2, fun i hi => ?_⟩
      have h3 := first_all h i hi
      unfold jbE at h3
      split at h3
      · assumption
      · omega
    · omega
/-- What an accepted plan tells. -/
theorem sok_of {f g : Nat → Int} {n p : Nat} {C N : Int} (h : lfE f g n p C N = 0) : ∀ i, i < p → ((0 ≤ g (i * 3) ∧ g (i * 3) < n) ∧ (0 ≤ g (i * 3 + 1) ∧ g (i * 3 + 1) < C) ∧ 0 ≤ g (i * 3 + 2) ∧ g (i * 3 + 2) ≤ N) ∧ (∀ k, k < i → g (k * 3) ≠ g (i * 3)) ∧
    (f ((g (i * 3)).toNat * 4 + 2) ≤ g (i * 3 + 2) ∧ g (i * 3 + 2) + f ((g (i * 3)).toNat * 4 + 1) ≤ min (f ((g (i * 3)).toNat * 4 + 3)) N) ∧
    ∀ k, k < i → ¬(g (k * 3 + 1) = g (i * 3 + 1) ∧ g (i * 3 + 2) < g (k * 3 + 2) + f ((g (k * 3)).toNat * 4 + 1) ∧ g (k * 3 + 2) < g (i * 3 + 2) + f ((g (i * 3)).toNat * 4 + 1)) := by
  intro i hi
  have h1 := first_all h i hi
  unfold slE at h1
  split at h1
  · rename_i h2
    split at h1
    · rename_i h3
      split at h1
      · rename_i h4
        refine ⟨h2, fun k hk e => ?_, h4, fun k hk e => ?_⟩
        · have := first_all h3 k hk
          unfold twE at this
          rw [if_pos e] at this
          omega
        · have := first_all h1 k hk
          unfold ovE at this
          rw [if_pos e] at this
          omega
      · omega
    · omega
  · omega
theorem plan_ge {f g : Nat → Int} {n p : Nat} {C N : Int} (hj : jsE f n C N = 0) (h : lfE f g n p C N = 0) (L E : Nat) : bdI f n C N L E ≤ (rsk f n - tkn f g p) * E ∧ 0 ≤ rsk f n - tkn f g p := by
  obtain ⟨_, hC, hN, hf⟩ := jok_of hj
  have hs := sok_of h
  have hJ : ∀ i, i < p → (g (i * 3)).toNat < n := fun i hi => by have := (hs i hi).1; omega
  have hJd : ∀ i, i < p → ∀ i', i' < i → (g (i' * 3)).toNat ≠ (g (i * 3)).toNat := fun i hi i' hi' e => by
    have h1 := (hs i hi).1
    have h2 := (hs i' (by omega)).1
    exact (hs i hi).2.1 i' hi' (by omega)
  have h1 := si_some (n := n) (j := fun i => (g (i * 3)).toNat) (p := p) (g := fun i => f (i * 4)) hJ hJd (fun i hi => (hf i hi).1.1)
  have h0 : 0 ≤ rsk f n - tkn f g p := by unfold rsk tkn; omega
  refine ⟨?_, h0⟩
  unfold bdI
  have hge : 0 ≤ (rsk f n - tkn f g p) * (E : Int) := Int.mul_nonneg h0 (by omega)
  have h2 := plan_le (n := n) (p := p) (C := C.toNat) (N := N.toNat) (j := fun i => (g (i * 3)).toNat) (c := fun i => (g (i * 3 + 1)).toNat) (s := fun i => (g (i * 3 + 2)).toNat) (R := fun i => (f (i * 4)).toNat) (D := fun i => (f (i * 4 + 1)).toNat) (L := L) (E := E) hJ hJd
    (fun i hi => by
      have a := hs i hi
      have b := hf _ (hJ i hi)
      have := a.2.2.1
      omega)
    (fun i hi i' hi' e => by
      have a := hs i hi
      have a' := hs i' (by omega)
      have b := hf _ (hJ i hi)
      have b' := hf _ (hJ i' (by omega))
      have := a.2.2.2 i' hi'
      omega)
  have e1 : si p (fun i => (((f ((g (i * 3)).toNat * 4)).toNat : Nat) : Int)) = tkn f g p := si_congr fun i hi => by
    have := (hf _ (hJ i hi)).1
    omega
  have e2 : si n (fun i => max 0 ((((f (i * 4)).toNat : Nat) : Int) * E - (((f (i * 4 + 1)).toNat : Nat) : Int) * L)) = si n (fun i => max 0 (f (i * 4) * E - f (i * 4 + 1) * L)) := si_congr fun i hi => by
    have := hf i hi
    rw [show (((f (i * 4)).toNat : Nat) : Int) = f (i * 4) by omega, show (((f (i * 4 + 1)).toNat : Nat) : Int) = f (i * 4 + 1) by omega]
  rw [e1, e2, show (((C.toNat * N.toNat : Nat)) : Int) = C * N by rw [Int.natCast_mul, Int.toNat_of_nonneg (by omega), Int.toNat_of_nonneg (by omega)]] at h2
  rw [Int.sub_mul] at hge ⊢
  omega

/-- The ints of slots. -/
abbrev Tr3 : Type := Nat × Nat × Nat
def sints (l : List Tr3) : List Int := l.flatMap fun t => [(t.1 : Int), (t.2.1 : Int), (t.2.2 : Int)]
def scells (l : List Tr3) : List Value := (sints l).map fun x => .int .i64 x
def sf (l : List Tr3) (i : Nat) : Int := (sints l).getD i 0
theorem sints_len : ∀ l, (sints l).length = l.length * 3
  | [] => rfl
  | t :: l => by
    have := sints_len l
    unfold sints at this ⊢
    rw [List.flatMap_cons, List.length_append, this, List.length_cons]
    simp; omega
theorem scells_app (l k : List Tr3) : scells (l ++ k) = scells l ++ scells k := by unfold scells sints; rw [List.flatMap_append, List.map_append]
theorem scells_one (a b c : Nat) : scells [(a, b, c)] = [.int .i64 (a : Int), .int .i64 (b : Int), .int .i64 (c : Int)] := rfl
theorem sf_succ (t : Tr3) (l : List Tr3) (i : Nat) : sf (t :: l) (i + 3) = sf l i := by
  unfold sf sints
  rw [List.flatMap_cons]
  show ([(t.1 : Int), (t.2.1 : Int), (t.2.2 : Int)] ++ _).getD (i + 3) 0 = _
  simp [List.getD]
theorem sf_at : ∀ (l : List Tr3) (k : Nat) (h : k < l.length), sf l (k * 3) = ((l[k]).1 : Int) ∧ sf l (k * 3 + 1) = ((l[k]).2.1 : Int) ∧ sf l (k * 3 + 2) = ((l[k]).2.2 : Int)
  | t :: l, 0, _ => ⟨rfl, rfl, rfl⟩
  | t :: l, k + 1, h => by
    have h1 := sf_at l k (by simpa using h)
    rw [show (k + 1) * 3 = k * 3 + 3 by omega, show k * 3 + 3 + 1 = k * 3 + 1 + 3 by omega, show k * 3 + 3 + 2 = k * 3 + 2 + 3 by omega, sf_succ, sf_succ, sf_succ]
    exact h1
/-- Jobs as natural numbers. -/
def jbs (f : Nat → Int) (i : Nat) : Nat × Nat × Nat × Nat := ((f (i * 4)).toNat, (f (i * 4 + 1)).toNat, (f (i * 4 + 2)).toNat, (f (i * 4 + 3)).toNat)
theorem fit_ok {f : Nat → Int} {n C N : Nat} {l : List Tr3} (hj : jsE f n C N = 0) (h : Fit (jbs f) C N l) (hn : ∀ s, s ∈ l → s.1 < n) : lfE f (sf l) n l.length C N = 0 := by
  obtain ⟨_, _, _, hf⟩ := jok_of hj
  refine first_zero fun i hi => ?_
  obtain ⟨a1, a2, a3⟩ := sf_at l i hi
  have hm := List.getElem_mem hi
  obtain ⟨b1, b2, b3⟩ := h.1 _ hm
  have b4 := hn _ hm
  have b5 := hf _ b4
  have hp := List.pairwise_iff_getElem.1 h.2
  unfold slE
  rw [a1, a2, a3, Int.toNat_natCast]
  unfold jbs at b2 b3
  dsimp only at b2 b3
  rw [if_pos (by omega), if_pos, if_pos (by omega)]
  · refine first_zero fun k hk => ?_
    obtain ⟨c1, c2, c3⟩ := sf_at l k (by omega)
    have h4 := hp k i (by omega) hi hk
    have b6 := hf _ (hn _ (List.getElem_mem (show k < l.length by omega)))
    unfold ovE
    rw [c1, c2, c3, Int.toNat_natCast, if_neg]
    intro ⟨e1, e2, e3⟩
    have h5 := h4.2 (by omega)
    unfold jbs at h5
    dsimp only at h5
    omega
  · refine first_zero fun k hk => ?_
    obtain ⟨c1, _, _⟩ := sf_at l k (by omega)
    have h4 := hp k i (by omega) hi hk
    unfold twE
    rw [c1, if_neg]
    intro e
    exact h4.1 (by omega)
end Go.Proofs.YtlphlbgbbblnpaaGreatDoor
