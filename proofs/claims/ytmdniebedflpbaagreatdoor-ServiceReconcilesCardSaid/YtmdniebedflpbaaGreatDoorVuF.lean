/-
  WALKS: forms: words, names, roles.
-/
import Derived.Test.YtmdniebedflpbaaGreatDoorVuE
import Derived.Shelf.Strings.SlTrimAscii
namespace Go.Proofs.YtmdniebedflpbaaGreatDoor
open Go.RowKit

theorem split_of (w : World) (s : ByteArray) (n : Nat) (l : List ByteArray) (hs : s.size < 4294967281) (hc : Lib.countB s ⟨#[32]⟩ + 1 = n) (hl : Lib.splitB ⟨#[32]⟩ 0 (Lib.countB s ⟨#[32]⟩) s = l) (hG : Gl w) :
    Calls Tryz.prog 74 #[.string s, .string ⟨#[32]⟩] w fun e w' => e = .returned (.slice (some ⟨w.heap.size, 0, none⟩) n n) ∧ w' = w.alloc (.cells (l.map Value.string).toArray 9) := by
  obtain ⟨m, hm⟩ := hG.mx
  have q := Tryz.strings_Split s ⟨#[32]⟩ m w hs hm (by decide)
  rwa [hc, hl] at q
set_option maxRecDepth 100000 in
set_option maxHeartbeats 4000000 in
/-- A form with fewer words than there are. -/
theorem form_more (w : World) (s x : ByteArray) (n : Nat) (l : List ByteArray) (a : Option Addr) (c : Nat) (hs : s.size < 4294967281) (hc : Lib.countB s ⟨#[32]⟩ + 1 = n) (hl : Lib.splitB ⟨#[32]⟩ 0 (Lib.countB s ⟨#[32]⟩) s = l) (hn : n = 1 ∨ n = 2)
    (hx : l[n - 1]? = some x) (hd : (x.toList == [46, 46]) = false) (hG : Gl w) :
    Calls Tryz.prog 131 #[.string s, .slice a 3 c] w fun e w' => e = .returned (.bool false) ∧ Below w.heap.size w w' := by
  have HS := Lib.hid (split_of w s n l hs hc hl hG)
  clear hG hc hl
  go_enter Tryz.func131, Tryz.ntmps131
  go_wp2_with fail
  refine HS.out.mono ?_
  rintro e V ⟨rfl, hV⟩
  have hB : Below w.heap.size w V := by rw [hV]; exact (Below.refl _ _).alloc (Nat.le_refl _) _
  have HB := Lib.hid hB
  have c0 : V.cell? ⟨w.heap.size, n - 1, none⟩ = some (.string x) := by
    rw [hV]
    refine cell_h (new_heap w _) ?_
    simp [hx]
  clear hV hB HS hx
  rcases hn with rfl | rfl
  · have d0 : V.cell? ⟨w.heap.size, 0, none⟩ = some (.string x) := c0
    clear c0
    go_wp2_with fail
    go_ret
    exact ⟨rfl, HB.out⟩
  · have d0 : V.cell? ⟨w.heap.size, 1, none⟩ = some (.string x) := c0
    clear c0
    go_wp2_with fail
    go_ret
    exact ⟨rfl, HB.out⟩

set_option maxRecDepth 100000 in
set_option maxHeartbeats 4000000 in
/-- The name ann. -/
theorem ann_name (w : World) : Calls Tryz.prog 179 #[.string ⟨#[97, 110, 110]⟩] w fun e w' => e = .returned (.bool true) ∧ Below w.heap.size w w' := by
  have HI : Hid (∀ W, Calls Tryz.prog 44 #[.int .i64 3, .int .i64 1, .int .i64 24] W fun e w' => e = .returned (.bool true) ∧ w' = W) := fun W => vwithin_of true W 3 1 24 (by decide)
  have ho : ∀ W, Calls Tryz.prog 181 #[.string ⟨#[48, 49, 50, 51, 52, 53, 54, 55, 56, 57, 97, 98, 99, 100, 101, 102, 103, 104, 105, 106, 107, 108, 109, 110, 111, 112, 113, 114, 115, 116, 117, 118, 119, 120, 121, 122, 45]⟩, .string ⟨#[97, 110, 110]⟩] W fun e w' => e = .returned (.bool true) ∧ Below W.heap.size W w' := fun W => by
    have q := Any.strings_Trim_laid Tryz.lays160 (by kernel_rfl) ⟨#[97, 110, 110]⟩ ⟨#[48, 49, 50, 51, 52, 53, 54, 55, 56, 57, 97, 98, 99, 100, 101, 102, 103, 104, 105, 106, 107, 108, 109, 110, 111, 112, 113, 114, 115, 116, 117, 118, 119, 120, 121, 122, 45]⟩ W (by decide) (by decide) (ascii_of_all (by decide))
    rw [show (⟨(Lib.trimS (⟨#[97, 110, 110]⟩ : ByteArray).data.toList (⟨#[48, 49, 50, 51, 52, 53, 54, 55, 56, 57, 97, 98, 99, 100, 101, 102, 103, 104, 105, 106, 107, 108, 109, 110, 111, 112, 113, 114, 115, 116, 117, 118, 119, 120, 121, 122, 45]⟩ : ByteArray).data.toList).toArray⟩ : ByteArray) = ⟨#[]⟩ by decide +kernel] at q
    have HQ : Hid (Calls Tryz.prog 196 #[.string ⟨#[97, 110, 110]⟩, .string ⟨#[48, 49, 50, 51, 52, 53, 54, 55, 56, 57, 97, 98, 99, 100, 101, 102, 103, 104, 105, 106, 107, 108, 109, 110, 111, 112, 113, 114, 115, 116, 117, 118, 119, 120, 121, 122, 45]⟩] W fun e w' => e = .returned (.string ⟨#[]⟩) ∧ Below W.heap.size W w') := q
    clear q
    go_enter Tryz.func181, Tryz.ntmps181
    go_wp2_with fail
    refine HQ.out.mono ?_
    rintro e V ⟨rfl, hB⟩
    have HB := Lib.hid hB
    clear hB HQ
    go_wp2_with fail
    go_ret
    exact ⟨rfl, HB.out⟩
  have HO := Lib.hid ho
  clear ho
  go_enter Tryz.func179, Tryz.ntmps179
  go_wp2_with fail
  refine (HI.out _).mono ?_
  rintro e w9 ⟨rfl, rfl⟩
  go_wp2_with fail
  refine (HO.out _).mono ?_
  rintro e V ⟨rfl, hB⟩
  have HB := Lib.hid hB
  clear hB HO HI
  go_wp2_with fail
  go_ret
  exact ⟨rfl, HB.out⟩
end Go.Proofs.YtmdniebedflpbaaGreatDoor
