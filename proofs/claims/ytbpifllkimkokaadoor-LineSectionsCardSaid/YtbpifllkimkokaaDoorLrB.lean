/-
  WORDS: a selection of the least ones; WALKS: the reference's marks.
-/
import Derived.Test.YtbpifllkimkokaaDoorLrA
import Derived.Test.YtbpifllkimkokaaDoorLqE
import Derived.Deep.RegionHeld3
import Derived.Deep.QuietTactic
namespace Go.Proofs.YtbpifllkimkokaaDoor
open Go.RowKit

/-- Two ascending lists with the same members are one. -/
theorem strict_ext : ∀ {L M : List Int}, L.Pairwise (· < ·) → M.Pairwise (· < ·) → (∀ x, x ∈ L ↔ x ∈ M) → L = M
  | [], [], _, _, _ => rfl
  | [], y :: M, _, _, h => by have := (h y).2 (by simp); cases this
  | x :: L, [], _, _, h => by have := (h x).1 (by simp); cases this
  | x :: L, y :: M, hL, hM, h => by
    have h1 := List.pairwise_cons.1 hL
    have h2 := List.pairwise_cons.1 hM
    have e : x = y := by
      have hx := (h x).1 (by simp)
      have hy := (h y).2 (by simp)
      rcases List.mem_cons.1 hx with e | hx
      · exact e
      · rcases List.mem_cons.1 hy with e | hy
        · exact e.symm
        · have := h1.1 y hy; have := h2.1 x hx; omega
    subst e
    rw [strict_ext h1.2 h2.2 fun u => ?_]
    constructor
    · intro hu
      rcases List.mem_cons.1 ((h u).1 (by simp [hu])) with e | hu2
      · have := h1.1 u hu; omega
      · exact hu2
    · intro hu
      rcases List.mem_cons.1 ((h u).2 (by simp [hu])) with e | hu2
      · have := h2.1 u hu; omega
      · exact hu2

/-- All stations of the zones' ends. -/
def zps (z : Nat → Int) : Nat → List Int
  | 0 => []
  | i + 1 => zps z i ++ [z (i * 3)] ++ [z (i * 3 + 1)]
theorem zps_length (z : Nat → Int) : ∀ i, (zps z i).length = 2 * i
  | 0 => rfl
  | i + 1 => by simp only [zps, List.length_append, zps_length z i, List.length_cons, List.length_nil]; omega
theorem mem_zps {z : Nat → Int} {x : Int} : ∀ {i : Nat}, x ∈ zps z i ↔ ∃ j, j < i ∧ (x = z (j * 3) ∨ x = z (j * 3 + 1))
  | 0 => by simp [zps]
  | i + 1 => by
    simp only [zps, List.mem_append, mem_zps (i := i), List.mem_singleton]
    constructor
    · rintro ((⟨j, hj, h⟩ | h) | h)
      · exact ⟨j, by omega, h⟩
      · exact ⟨i, by omega, .inl h⟩
      · exact ⟨i, by omega, .inr h⟩
    · rintro ⟨j, hj, h⟩
      by_cases hji : j = i
      · subst hji
        rcases h with h | h
        · exact .inl (.inr h)
        · exact .inr h
      · exact .inl (.inl ⟨j, by omega, h⟩)
/-- All marks, in the order in which they are laid. -/
def allMs (f z m : Nat → Int) (n nz nl : Nat) : List Int := (List.range (n + 1)).map (endS f) ++ zps z nz ++ lbs m nl
theorem mem_allMs {f z m : Nat → Int} {n nz nl : Nat} (h : chk n nz nl f z m = 0) {x : Int} : x ∈ allMs f z m n nz nl ↔ Br f z m n nz nl x ∨ x = endS f n := by
  have hz := zend_of h
  unfold allMs Br
  rw [List.mem_append, List.mem_append, mem_zps]
  simp only [List.mem_map, List.mem_range, lbs]
  constructor
  · rintro ((⟨i, hi, rfl⟩ | ⟨j, hj, h1⟩) | ⟨j, hj, rfl⟩)
    · by_cases e : i = n
      · subst e; exact .inr rfl
      · exact .inl (.inl ⟨i, by omega, rfl⟩)
    · rcases h1 with rfl | rfl
      · exact .inl (.inr (.inl ⟨j, hj, .inl rfl⟩))
      · have := hz j hj
        by_cases e : z (j * 3 + 1) < endS f n
        · exact .inl (.inr (.inl ⟨j, hj, .inr ⟨rfl, e⟩⟩))
        · exact .inr (by omega)
    · exact .inl (.inr (.inr ⟨j, hj, rfl⟩))
  · rintro ((⟨i, hi, rfl⟩ | ⟨j, hj, h1⟩ | ⟨j, hj, rfl⟩) | rfl)
    · exact .inl (.inl ⟨i, by omega, rfl⟩)
    · rcases h1 with rfl | ⟨rfl, _⟩
      · exact .inl (.inr ⟨j, hj, .inl rfl⟩)
      · exact .inl (.inr ⟨j, hj, .inr rfl⟩)
    · exact .inr ⟨j, hj, rfl⟩
    · exact .inl (.inl ⟨n, by omega, rfl⟩)
theorem allMs_length (f z m : Nat → Int) (n nz nl : Nat) : (allMs f z m n nz nl).length = n + 1 + 2 * nz + nl := by
  simp only [allMs, lbs, List.length_append, List.length_map, List.length_range, zps_length]

/-- The least ones of A, so far. -/
def Sel (A O : List Int) : Prop := O.Pairwise (· < ·) ∧ (∀ x ∈ O, x ∈ A) ∧ ∀ a ∈ A, ∀ x ∈ O, a ≤ x → a ∈ O
/-- Whether a comes behind all of O. -/
def Abv (O : List Int) (a : Int) : Prop := ∀ x ∈ O, x < a
theorem abv_nil (a : Int) : Abv [] a := fun _ hx => by cases hx
theorem abv_snoc {O : List Int} {l a : Int} (h : (O ++ [l]).Pairwise (· < ·)) : Abv (O ++ [l]) a ↔ l < a := by
  constructor
  · intro h1; exact h1 l (by simp)
  · intro h1 x hx
    rcases List.mem_append.1 hx with hx | hx
    · have := (List.pairwise_append.1 h).2.2 x hx l (by simp); omega
    · rw [List.mem_singleton] at hx; omega
/-- What next is behind i elements. -/
def MinP (A O : List Int) (i : Nat) (nx : Int) : Prop :=
  (nx = -1 ∧ ∀ a ∈ A.take i, ¬ Abv O a) ∨ (0 ≤ nx ∧ nx ∈ A ∧ Abv O nx ∧ ∀ a ∈ A.take i, Abv O a → nx ≤ a)
theorem MinP.skip {A O : List Int} {i : Nat} {nx : Int} (hi : i < A.length) (h : MinP A O i nx) (hs : ¬ Abv O (A[i]'hi) ∨ (0 ≤ nx ∧ nx ≤ A[i]'hi)) : MinP A O (i + 1) nx := by
  have ht : A.take (i + 1) = A.take i ++ [A[i]'hi] := by rw [List.take_succ_eq_append_getElem hi]
  rcases h with ⟨h1, h2⟩ | ⟨h1, h2, h3, h4⟩
  · refine .inl ⟨h1, fun a ha => ?_⟩
    rw [ht, List.mem_append] at ha
    rcases ha with ha | ha
    · exact h2 a ha
    · rw [List.mem_singleton] at ha
      subst ha
      rcases hs with hs | hs
      · exact hs
      · omega
  · refine .inr ⟨h1, h2, h3, fun a ha hb => ?_⟩
    rw [ht, List.mem_append] at ha
    rcases ha with ha | ha
    · exact h4 a ha hb
    · rw [List.mem_singleton] at ha
      subst ha
      rcases hs with hs | hs
      · exact absurd hb hs
      · exact hs.2
theorem MinP.take {A O : List Int} {i : Nat} {nx : Int} (hi : i < A.length) (h : MinP A O i nx) (h0 : 0 ≤ A[i]'hi) (ha : Abv O (A[i]'hi)) (hs : nx < 0 ∨ A[i]'hi < nx) : MinP A O (i + 1) (A[i]'hi) := by
  have ht : A.take (i + 1) = A.take i ++ [A[i]'hi] := by rw [List.take_succ_eq_append_getElem hi]
  refine .inr ⟨h0, List.getElem_mem hi, ha, fun a hm hb => ?_⟩
  rw [ht, List.mem_append] at hm
  rcases hm with hm | hm
  · rcases h with ⟨h1, h2⟩ | ⟨h1, h2, h3, h4⟩
    · exact absurd hb (h2 a hm)
    · have := h4 a hm hb
      omega
  · rw [List.mem_singleton] at hm
    omega
theorem sel_nil (A : List Int) : Sel A [] := ⟨List.Pairwise.nil, (fun x hx => by cases hx), (fun a _ x hx => by cases hx)⟩
theorem not_abv {O : List Int} {a : Int} (h : ¬ Abv O a) : ∃ x ∈ O, a ≤ x := by
  by_cases e : ∃ x ∈ O, a ≤ x
  · exact e
  · exact absurd (fun x hx => by
      by_cases e2 : x < a
      · exact e2
      · exact absurd ⟨x, hx, by omega⟩ e) h
theorem Sel.snoc {A O : List Int} {nx : Int} (h : Sel A O) (hm : MinP A O A.length nx) (h0 : 0 ≤ nx) : Sel A (O ++ [nx]) ∧ (O ++ [nx]).length ≤ A.length := by
  rw [MinP, List.take_length] at hm
  rcases hm with ⟨h1, _⟩ | ⟨_, h2, h3, h4⟩
  · omega
  · have hp : (O ++ [nx]).Pairwise (· < ·) := List.pairwise_append.2 ⟨h.1, List.pairwise_singleton _ _, fun a ha b hb => by rw [List.mem_singleton] at hb; subst hb; exact h3 a ha⟩
    have hsub : ∀ x ∈ O ++ [nx], x ∈ A := fun x hx => by
      rcases List.mem_append.1 hx with hx | hx
      · exact h.2.1 x hx
      · rw [List.mem_singleton] at hx; subst hx; exact h2
    refine ⟨⟨hp, hsub, fun a ha x hx hle => ?_⟩, List.Nodup.length_le_of_subset (hp.imp fun h => by omega) hsub⟩
    rw [List.mem_append]
    by_cases hb : Abv O a
    · rcases List.mem_append.1 hx with hx | hx
      · have := hb x hx; omega
      · rw [List.mem_singleton] at hx
        have := h4 a ha hb
        exact .inr (by rw [List.mem_singleton]; omega)
    · obtain ⟨y, hy, hay⟩ := not_abv hb
      exact .inl (h.2.2 a ha y hy hay)
theorem Sel.done {A O : List Int} {nx : Int} (h : Sel A O) (hm : MinP A O A.length nx) (h0 : nx < 0) : ∀ x, x ∈ O ↔ x ∈ A := by
  rw [MinP, List.take_length] at hm
  intro x
  refine ⟨h.2.1 x, fun hx => ?_⟩
  rcases hm with ⟨_, h1⟩ | ⟨h1, _⟩
  · obtain ⟨y, hy, hle⟩ := not_abv (h1 x hx)
    exact h.2.2 x hx y hy hle
  · omega
theorem marks_list {f z m : Nat → Int} {n nz nl : Nat} (h : chk n nz nl f z m = 0) {O : List Int} (hp : O.Pairwise (· < ·)) (hm : ∀ x, x ∈ O ↔ x ∈ allMs f z m n nz nl) : O = ascOf (allBs f z m n nz nl) ++ [endS f n] := by
  refine strict_ext hp (List.pairwise_append.2 ⟨ascOf_strict _, List.pairwise_singleton _ _, fun a ha b hb => ?_⟩) fun x => ?_
  · rw [List.mem_singleton] at hb
    subst hb
    exact (asc_in h a ha).2
  · rw [hm, mem_allMs h, List.mem_append, List.mem_singleton, mem_ascOf, mem_allBs]
theorem allMs_pos {f z m : Nat → Int} {n nz nl : Nat} (h : chk n nz nl f z m = 0) : ∀ x ∈ allMs f z m n nz nl, 0 ≤ x := fun x hx => by
  rcases (mem_allMs h).1 hx with h1 | rfl
  · exact (br_in h h1).1
  · exact (endS_le (chk_ok h).2.2.2.1).1
def slLen : Value → Nat
  | .slice _ n _ => n
  | _ => 0
theorem five_keepA {W W' : World} {a0 a1 a2 a3 a4 : Addr} {v0 v1 v2 v3 v4 : Value} (h : W.cell? a0 = some v0 ∧ W.cell? a1 = some v1 ∧ W.cell? a2 = some v2 ∧ W.cell? a3 = some v3 ∧ W.cell? a4 = some v4) (hb : Below W.heap.size W W') :
    W'.cell? a0 = some v0 ∧ W'.cell? a1 = some v1 ∧ W'.cell? a2 = some v2 ∧ W'.cell? a3 = some v3 ∧ W'.cell? a4 = some v4 := by
  have e : ∀ (q : Addr) x, W.cell? q = some x → W'.cell? q = some x := fun q x hx => (hb.cell (p := q) (World.block_lt_of_cell? W _ hx)).trans hx
  obtain ⟨h0, h1, h2, h3, h4⟩ := h
  exact ⟨e _ _ h0, e _ _ h1, e _ _ h2, e _ _ h3, e _ _ h4⟩
end Go.Proofs.YtbpifllkimkokaaDoor
