/-
  WALKS AND WORDS: Num8 Num9 Num10 of my texts, one behind the other.
-/
import Derived.Test.YtmdniebedflpbaaDoorDyH
-- Num8: WALKS: numbers: difference, Sub.
namespace Go.Proofs.YtmdniebedflpbaaDoor.Dy
open Go.RowKit

theorem meth_add (a : Bool) (p : Option Addr) (n c : Nat) (e : Int) (w : World) : (method 252 51 (.agg #[.bool a, .slice p n c, .int .i64 e]) "Add").run Tryd.prog w = .ok (12, .agg #[.bool a, .slice p n c, .int .i64 e]) w := by kernel_rfl
end Go.Proofs.YtmdniebedflpbaaDoor.Dy
-- Num9: WALKS: numbers: Sign, Cmp.
namespace Go.Proofs.YtmdniebedflpbaaDoor.Dy
open Go.RowKit

end Go.Proofs.YtmdniebedflpbaaDoor.Dy
-- Num10: WALKS: limbs.over by one digit; Over.
namespace Go.Proofs.YtmdniebedflpbaaDoor.Dy
open Go.RowKit

theorem Nt.of_row {w : World} {b o n cap : Nat} {f : Nat → Nat} (hn : 0 < n) (hc : n ≤ cap) (hr : Row w b o n f) (hs : Small f n) (hl : f (n - 1) ≠ 0) : Nt w (.slice (some ⟨b, o, none⟩) n cap) (val f n) :=
  .inr ⟨b, o, n, cap, f, rfl, hn, hc, hr, hs, hl, rfl⟩

/-- slices.Clone of a number. -/
theorem clone_nt (w : World) (v : Value) (m : Nat) (h : Nt w v m) (l : Len m 400000000000) :
    Calls Tryd.prog 45 #[v] w (Ret w fun w' v => Nt w' v m) := by
  rcases h with ⟨rfl, rfl⟩ | ⟨b, o, n, cap, f, rfl, hn, hc, hr, hs, hl, rfl⟩
  · refine (clone_nil w 0 0).mono ?_
    rintro e w' ⟨rfl, rfl⟩
    exact ⟨_, rfl, .inl ⟨rfl, rfl⟩, Below.refl _ _⟩
  · have hL := len_le hn hl l
    refine (clone_row w b o n cap f (by omega) hr).mono ?_
    rintro e w' ⟨g, k, rfl, hg, hk, hW, hR, hB⟩
    exact ⟨_, rfl, Nt.of_row hn hk hR hs hl, hB⟩

/-- Two values handed back, in memory of the call's own. -/
def Ret2 (w : World) (Q : World → Value → Value → Prop) (e : Ending) (w' : World) : Prop :=
  ∃ v1 v2, e = .returned (.tuple #[v1, v2]) ∧ Q w' v1 v2 ∧ Below w.heap.size w w'

end Go.Proofs.YtmdniebedflpbaaDoor.Dy
