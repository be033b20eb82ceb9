/-
  MATHEMATICS: a safe trap stays safe; its pig; the route opens the door.
-/
import Derived.Test.YtmdniebedflpbaaGreatDoorVsI
namespace Go.Proofs.YtmdniebedflpbaaGreatDoor
open Go.RowKit

theorem Tp.safe_ok {t : Tp} (h : t.safe = true) : t.ok := by
  unfold Tp.safe at h
  simp only [Bool.and_eq_true, decide_eq_true_eq] at h
  exact h.1
/-- A trap in finite numbers. -/
def Tp.of (m k v u d : Bool) (p g : Fin 4) (i : Fin 3) : Tp := ⟨m, k, v, u, d, ((p.val : Nat) : Int), ((g.val : Nat) : Int), ((i.val : Nat) : Int)⟩
theorem Tp.ok_of {t : Tp} (h : t.ok) : ∃ p g i, t = Tp.of t.m t.k t.v t.u t.d p g i := by
  obtain ⟨m, k, v, u, d, p, g, i⟩ := t
  obtain ⟨⟨h1, h2⟩, ⟨h3, h4⟩, h5, h6⟩ := h
  dsimp only at h1 h2 h3 h4 h5 h6
  obtain ⟨x, rfl⟩ := Int.eq_ofNat_of_zero_le h1
  obtain ⟨y, rfl⟩ := Int.eq_ofNat_of_zero_le h3
  obtain ⟨z, rfl⟩ := Int.eq_ofNat_of_zero_le h5
  exact ⟨⟨x, by omega⟩, ⟨y, by omega⟩, ⟨z, by omega⟩, rfl⟩
/-- What the law asks of a step. -/
def Tp.keeps (t u : Tp) : Bool := u.safe && (!u.d || u.shut) && ((decide (u.i = 2) == decide (t.i = 2)) || (!t.d && !u.d))
theorem keeps_all : ∀ m k v u d : Bool, ∀ p g : Fin 4, ∀ i : Fin 3, ∀ n : Fin 13, (!((Tp.of m k v u d p g i).safe && (Tp.of m k v u d p g i).alw n.val) || (Tp.of m k v u d p g i).keeps ((Tp.of m k v u d p g i).beh n.val)) = true := by
  decide +kernel
theorem Tp.beh_keeps {t : Tp} {n : Nat} (hs : t.safe = true) (ha : t.alw n = true) (hn : n ≤ 12) : t.keeps (t.beh n) = true := by
  obtain ⟨p, g, i, e⟩ := Tp.ok_of (Tp.safe_ok hs)
  have h := keeps_all t.m t.k t.v t.u t.d p g i ⟨n, by omega⟩
  rw [← e] at h
  simpa [hs, ha] using h
theorem Tp.step_keeps (t : Tp) (c : Int) (hs : t.safe = true) : ((t.step c).2 = 1 ∨ (t.step c).2 = 100) ∨ ((t.step c).2 = 0 ∧ (t.step c).1.safe = true ∧ ((t.step c).1.d = true → (t.step c).1.shut = true) ∧ (decide ((t.step c).1.i = 2) = decide (t.i = 2) ∨ t.d = false ∧ (t.step c).1.d = false)) := by
  rcases t.step_ways c with ⟨_, _, e⟩ | ⟨_, _, _, e⟩ | ⟨_, _, n, hn, rfl, h | h | ⟨_, ha, e⟩⟩
  · rw [e]; exact .inl (.inl rfl)
  · rw [e]; exact .inl (.inl rfl)
  · rw [h.2]; exact .inl (.inr rfl)
  · rw [h.2.2]; exact .inl (.inr rfl)
  · rw [e]
    have h := Tp.beh_keeps hs ha hn
    refine .inr ⟨rfl, ?_⟩
    unfold Tp.keeps at h
    simp only [Bool.and_eq_true, Bool.or_eq_true, Bool.not_eq_true', beq_iff_eq] at h
    obtain ⟨⟨h1, h2⟩, h3⟩ := h
    refine ⟨h1, fun hd => ?_, h3⟩
    rcases h2 with h2 | h2
    · exact absurd (h2.symm.trans hd) (by decide)
    · exact h2
/-- What a list of commands makes of a trap. -/
def Tp.go : List Int → Tp → Tp
  | [], t => t
  | c :: L, t => Tp.go L (t.step c).1
def Tp.fine : List Int → Tp → Bool
  | [], t => t.d && t.safe
  | c :: L, t => decide ((t.step c).2 = 0) && Tp.fine L (t.step c).1
theorem route_all : ∀ m k v u : Bool, ∀ p g : Fin 4, ∀ i : Fin 3, (decide ((Tp.of m k v u false p g i).route.length ≤ 16) && Tp.fine (Tp.of m k v u false p g i).route (Tp.of m k v u false p g i)) = true := by
  decide +kernel
theorem Tp.route_fine {t : Tp} (hs : t.safe = true) : t.rt.2 = 0 ∧ t.rt.1.length ≤ 16 ∧ Tp.fine t.rt.1 t = true := by
  rcases t.rt_ways with ⟨h, _⟩ | ⟨_, _, h, _⟩ | ⟨_, _, _, hd, e⟩ | ⟨_, _, _, hd, e⟩
  · exact absurd (Tp.safe_ok hs) h
  · exact absurd (h.symm.trans hs) (by decide)
  · rw [e]; exact ⟨rfl, by decide, by simp [Tp.fine, hd, hs]⟩
  · rw [e]
    obtain ⟨p, g, i, x⟩ := Tp.ok_of (Tp.safe_ok hs)
    rw [hd] at x
    have h := route_all t.m t.k t.v t.u p g i
    rw [← x] at h
    simp only [Bool.and_eq_true, decide_eq_true_eq] at h
    exact ⟨rfl, h⟩
theorem Tp.go_take (L : List Int) : ∀ (t : Tp) (j : Nat), j < L.length → Tp.go (L.take (j + 1)) t = ((Tp.go (L.take j) t).step (L.getD j 0)).1 := by
  induction L with
  | nil => intro t j h; simp at h
  | cons c L ih =>
    intro t j h
    cases j with
    | zero => simp [Tp.go]
    | succ j => simpa [Tp.go] using ih (t.step c).1 j (by simpa using h)
theorem Tp.fine_at (L : List Int) : ∀ (t : Tp), Tp.fine L t = true → (∀ j, j < L.length → ((Tp.go (L.take j) t).step (L.getD j 0)).2 = 0) ∧ (Tp.go L t).d = true ∧ (Tp.go L t).safe = true := by
  induction L with
  | nil => intro t h; simp only [Tp.fine, Bool.and_eq_true] at h; exact ⟨fun j h => by simp at h, h⟩
  | cons c L ih =>
    intro t h
    simp only [Tp.fine, Bool.and_eq_true, decide_eq_true_eq] at h
    obtain ⟨h1, h2⟩ := ih _ h.2
    refine ⟨fun j hj => ?_, h2⟩
    cases j with
    | zero => simpa [Tp.go] using h.1
    | succ j => simpa [Tp.go] using h1 j (by simpa using hj)
end Go.Proofs.YtmdniebedflpbaaGreatDoor
