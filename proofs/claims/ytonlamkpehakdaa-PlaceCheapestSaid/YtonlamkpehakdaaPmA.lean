/-
  WORDS: welds and calls; WALKS: how far a weld and a call are apart.
-/
import Derived.Test.YtonlamkpehakdaaPlJ
namespace Go.Proofs.Ytonlamkpehakdaa
open Go.RowKit Go.Shelf

/-- How far apart. -/
def dst (g h : Nat → Int) (i k : Nat) : Int := max (g i - h k) (h k - g i)
/-- Places: ints from 0 to 2^30. -/
def Plc (n : Nat) (g : Nat → Int) : Prop := ∀ i, i < n → 0 ≤ g i ∧ g i ≤ 1073741824
theorem dst_bd {n m : Nat} {g h : Nat → Int} (hg : Plc n g) (hh : Plc m h) {i k : Nat} (hi : i < n) (hk : k < m) : 0 ≤ dst g h i k ∧ dst g h i k ≤ 1073741824 := by
  have := hg i hi
  have := hh k hk
  unfold dst
  omega

theorem ret_int {a b : Int} (h : a = b) : Ending.returned (.int .i64 a) = .returned (.int .i64 b) := by rw [h]
/-- The two boxes of distances: welds and calls. -/
structure DsAt (w : World) (wb hb : Nat) (wa ha : Option Addr) (n wc m hc : Nat) (g h : Nat → Int) : Prop where
  c1 : w.cell? ⟨wb, 0, none⟩ = some (.slice wa n wc)
  c2 : w.cell? ⟨hb, 0, none⟩ = some (.slice ha m hc)
  s1 : Sl w 1 wa n g
  s2 : Sl w 1 ha m h
  p1 : Plc n g
  p2 : Plc m h
  l1 : n ≤ 40
  l2 : m ≤ 40

theorem ds_drewN {w : World} {wb hb : Nat} {wa ha : Option Addr} {n wc m hc : Nat} {g h : Nat → Int} (H : DsAt w wb hb wa ha n wc m hc g h) (q : Nat) : DsAt (w.drewN q) wb hb wa ha n wc m hc g h :=
  ⟨H.c1, H.c2, H.s1, H.s2, H.p1, H.p2, H.l1, H.l2⟩

set_option maxRecDepth 100000 in
set_option maxHeartbeats 4000000 in
theorem dst_of (w : World) (wb hb : Nat) (wa ha : Option Addr) (n wc m hc : Nat) (g h : Nat → Int) (hD : DsAt w wb hb wa ha n wc m hc g h) (i k : Nat) (hi : i < n) (hk : k < m) :
    Calls Try.prog 87 #[.int .i64 (i : Int), .int .i64 (k : Int), .pointer (some ⟨wb, 0, none⟩), .pointer (some ⟨hb, 0, none⟩)] w fun e w' => e = .returned (.int .i64 (dst g h i k)) ∧ ∃ q, w' = w.drewN q := by
  obtain ⟨b1, o1, rfl, I1⟩ := hD.s1 (by omega)
  obtain ⟨b2, o2, rfl, I2⟩ := hD.s2 (by omega)
  have c1 := hD.c1
  have c2 := hD.c2
  have d1 := I1 i (by omega)
  have d2 := I2 k (by omega)
  have q1 := hD.p1 i hi
  have q2 := hD.p2 k hk
  have l1 := hD.l1
  have l2 := hD.l2
  have hi1 : (i : Int) < n := by omega
  have hk1 : (k : Int) < m := by omega
  have HE : Hid (dst g h i k = max (g i - h k) (h k - g i)) := rfl
  clear hD I1 I2
  generalize dst g h i k = D at *
  generalize g i = x at *
  generalize h k = y at *
  have w1 : IntKind.i64.wrap (x - y) = x - y := IntWalk.i64_in _ (by omega)
  have w2 : IntKind.i64.wrap (y - x) = y - x := IntWalk.i64_in _ (by omega)
  go_enter Try.func87, Try.ntmps87
  go_wp2
  go_quiet (fail)
  go_wp2
  all_goals
    go_ret
    refine ⟨?_, _, rfl⟩
    rw [HE.out]
    clear w1 w2 HE
    exact ret_int (by omega)

/-- The steps with which an alignment of the first i welds with the first k calls can end. -/
abbrev Stp := Nat × Nat × Int
def stV (s : Stp) : Value := .agg #[.int .i64 (s.1 : Int), .int .i64 (s.2.1 : Int), .int .i64 s.2.2]
def stp1 (L : Int) (i k : Nat) : List Stp := if 0 < i then [(i - 1, k, L)] else []
def stp2 (F : Int) (i k : Nat) : List Stp := if 0 < k then [(i, k - 1, F)] else []
def stp3 (M : Int) (g h : Nat → Int) (i k : Nat) : List Stp := if 0 < i ∧ 0 < k ∧ dst g h (i - 1) (k - 1) ≤ M then [(i - 1, k - 1, dst g h (i - 1) (k - 1))] else []
def stp (L F M : Int) (g h : Nat → Int) (i k : Nat) : List Stp := stp1 L i k ++ stp2 F i k ++ stp3 M g h i k

/-- What a function that goes through the steps has: its four boxes, and those of the distances. -/
structure StAt (w : World) (ib kb cb db wb hb : Nat) (wa ha : Option Addr) (n wc m hc : Nat) (g h : Nat → Int) (L F M : Int) (i k : Nat) : Prop where
  ci : w.cell? ⟨ib, 0, none⟩ = some (.int .i64 (i : Int))
  ck : w.cell? ⟨kb, 0, none⟩ = some (.int .i64 (k : Int))
  c0 : w.cell? ⟨cb, 0, none⟩ = some (.int .i64 L)
  c1 : w.cell? ⟨cb, 1, none⟩ = some (.int .i64 F)
  c2 : w.cell? ⟨cb, 2, none⟩ = some (.int .i64 M)
  cd : w.cell? ⟨db, 0, none⟩ = some (.func (.func 87) #[] #[.pointer (some ⟨wb, 0, none⟩), .pointer (some ⟨hb, 0, none⟩)])
  ds : DsAt w wb hb wa ha n wc m hc g h
  hi : i ≤ n
  hk : k ≤ m
end Go.Proofs.Ytonlamkpehakdaa
