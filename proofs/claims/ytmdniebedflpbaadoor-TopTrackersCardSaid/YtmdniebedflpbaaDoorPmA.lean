/-
  WORDS: welds and calls; WALKS: how far a weld and a call are apart.
-/
import Derived.Test.YtmdniebedflpbaaDoorPlJ
namespace Go.Proofs.YtmdniebedflpbaaDoor
open Go.RowKit Go.Shelf

/-- How far apart. -/
def dst (g h : Nat → Int) (i k : Nat) : Int := max (g i - h k) (h k - g i)
/-- Places: ints from 0 to 2^30. -/
def Plc (n : Nat) (g : Nat → Int) : Prop := ∀ i, i < n → 0 ≤ g i ∧ g i ≤ 1073741824
theorem dst_bd {n m : Nat} {g h : Nat → Int} (hg : Plc n g) (hh : Plc m h) {i k : Nat} (hi : i < n) (hk : k < m) : 0 ≤ dst g h i k ∧ dst g h i k ≤ 1073741824 := by
  have := hg i hi
  have := hh k hk
  unfold dst
  omega

theorem ret_int {a b : Int} (h : a = b) : Ending.returned (.int .i64 a) = .returned (.int .i64 b) := by rw [h]
/-- The two boxes of distances: welds and calls. -/
structure DsAt (w : World) (wb hb : Nat) (wa ha : Option Addr) (n wc m hc : Nat) (g h : Nat → Int) : Prop where
  c1 : w.cell? ⟨wb, 0, none⟩ = some (.slice wa n wc)
  c2 : w.cell? ⟨hb, 0, none⟩ = some (.slice ha m hc)
  s1 : Sl w 1 wa n g
  s2 : Sl w 1 ha m h
  p1 : Plc n g
  p2 : Plc m h
  l1 : n ≤ 40
  l2 : m ≤ 40

theorem ds_drewN {w : World} {wb hb : Nat} {wa ha : Option Addr} {n wc m hc : Nat} {g h : Nat → Int} (H : DsAt w wb hb wa ha n wc m hc g h) (q : Nat) : DsAt (w.drewN q) wb hb wa ha n wc m hc g h :=
  ⟨H.c1, H.c2, H.s1, H.s2, H.p1, H.p2, H.l1, H.l2⟩

/-- The steps with which an alignment of the first i welds with the first k calls can end. -/
abbrev Stp := Nat × Nat × Int
def stV (s : Stp) : Value := .agg #[.int .i64 (s.1 : Int), .int .i64 (s.2.1 : Int), .int .i64 s.2.2]
def stp1 (L : Int) (i k : Nat) : List Stp := if 0 < i then [(i - 1, k, L)] else []
def stp2 (F : Int) (i k : Nat) : List Stp := if 0 < k then [(i, k - 1, F)] else []
def stp3 (M : Int) (g h : Nat → Int) (i k : Nat) : List Stp := if 0 < i ∧ 0 < k ∧ dst g h (i - 1) (k - 1) ≤ M then [(i - 1, k - 1, dst g h (i - 1) (k - 1))] else []
def stp (L F M : Int) (g h : Nat → Int) (i k : Nat) : List Stp := stp1 L i k ++ stp2 F i k ++ stp3 M g h i k

end Go.Proofs.YtmdniebedflpbaaDoor
