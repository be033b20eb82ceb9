/-
  WALKS: the line 'hand ann run': its form.
-/
import Derived.Test.YtmdniebedflpbaaGreatDoorVuF
namespace Go.Proofs.YtmdniebedflpbaaGreatDoor
open Go.RowKit

set_option maxRecDepth 100000 in
set_option maxHeartbeats 4000000 in
theorem role_run (w : World) (hG : Gl w) : Calls Tryz.prog 135 #[.string ⟨#[114, 117, 110]⟩] w fun e w' => e = .returned (.int .i64 0) ∧ w' = w := by
  have h0 := hG.r0
  have h1 := hG.r1
  have h2 := hG.r2
  have h3 := hG.r3
  have i0 : ∀ w, (Instr.index 225 (.agg #[.string ⟨#[114, 117, 110]⟩, .string ⟨#[114, 101, 97, 100]⟩, .string ⟨#[100, 105, 103]⟩, .string ⟨#[115, 105, 103, 110]⟩]) (.int .i64 0)).run Tryz.prog w = .ok (.string ⟨#[114, 117, 110]⟩) w := fun _ => by kernel_rfl
  clear hG
  go_enter Tryz.func135, Tryz.ntmps135
  go_wp2_with fail
  refine wp_loop_rounds 1 ?_
  rw [rounds_succ]
  go_wp2_with fail
  go_ret
  exact ⟨rfl, rfl⟩

set_option maxRecDepth 100000 in
set_option maxHeartbeats 4000000 in
theorem kind_hand (w : World) : Calls Tryz.prog 157 #[.string ⟨#[104, 97, 110, 100]⟩, .string ⟨#[104, 97, 110, 100]⟩] w fun e w' => e = .returned (.bool true) ∧ w' = w := by
  go_enter Tryz.func157, Tryz.ntmps157
  go_wp2_with fail
  go_ret
  exact ⟨rfl, rfl⟩
set_option maxRecDepth 100000 in
set_option maxHeartbeats 4000000 in
theorem kind_ann (w : World) : Calls Tryz.prog 157 #[.string ⟨#[72, 65, 78, 68]⟩, .string ⟨#[97, 110, 110]⟩] w fun e w' => e = .returned (.bool true) ∧ Below w.heap.size w w' := by
  have HN := Lib.hid (ann_name w)
  go_enter Tryz.func157, Tryz.ntmps157
  go_wp2_with fail
  refine HN.out.mono ?_
  rintro e V ⟨rfl, hB⟩
  have HB := Lib.hid hB
  clear hB HN
  go_wp2_with fail
  go_ret
  exact ⟨rfl, HB.out⟩
set_option maxRecDepth 100000 in
set_option maxHeartbeats 4000000 in
theorem kind_run (w : World) (hG : Gl w) : Calls Tryz.prog 157 #[.string ⟨#[82, 79, 76, 69]⟩, .string ⟨#[114, 117, 110]⟩] w fun e w' => e = .returned (.bool true) ∧ w' = w := by
  have HN := Lib.hid (role_run w hG)
  clear hG
  go_enter Tryz.func157, Tryz.ntmps157
  go_wp2_with fail
  refine HN.out.mono ?_
  rintro e V ⟨rfl, rfl⟩
  go_wp2_with fail
  go_ret
  exact ⟨rfl, rfl⟩
/-- The words of the line. -/
structure Wd (w : World) (B : Nat) : Prop where
  c0 : w.cell? ⟨B, 0, none⟩ = some (.string ⟨#[104, 97, 110, 100]⟩)
  c1 : w.cell? ⟨B, 1, none⟩ = some (.string ⟨#[97, 110, 110]⟩)
  c2 : w.cell? ⟨B, 2, none⟩ = some (.string ⟨#[114, 117, 110]⟩)
theorem Wd.keep {w w' : World} {B : Nat} (h : Wd w B) (hb : Below w.heap.size w w') : Wd w' B := by
  have k : ∀ (b o : Nat) (v : Value), w.cell? ⟨b, o, none⟩ = some v → w'.cell? ⟨b, o, none⟩ = some v := fun b o v hc => (hb.cell (p := ⟨b, o, none⟩) (World.block_lt_of_cell? w _ hc)).trans hc
  exact ⟨k _ _ _ h.c0, k _ _ _ h.c1, k _ _ _ h.c2⟩

set_option maxRecDepth 100000 in
set_option maxHeartbeats 4000000 in
theorem form_hand (w : World) (B : Nat) (hW : Wd w B) (hG : Gl w) :
    Calls Tryz.prog 131 #[.string ⟨#[104, 97, 110, 100, 32, 72, 65, 78, 68, 32, 82, 79, 76, 69]⟩, .slice (some ⟨B, 0, none⟩) 3 3] w fun e w' => e = .returned (.bool true) ∧ Below w.heap.size w w' := by
  have HS := Lib.hid (split_of w ⟨#[104, 97, 110, 100, 32, 72, 65, 78, 68, 32, 82, 79, 76, 69]⟩ 3 [⟨#[104, 97, 110, 100]⟩, ⟨#[72, 65, 78, 68]⟩, ⟨#[82, 79, 76, 69]⟩] (by decide) (by decide +kernel) (by decide +kernel) hG)
  have HW := Lib.hid hW
  have HG := Lib.hid hG
  clear hG hW
  go_enter Tryz.func131, Tryz.ntmps131
  go_wp2_with fail
  refine HS.out.mono ?_
  rintro e V ⟨rfl, hV⟩
  have hB : Below w.heap.size w V := by rw [hV]; exact (Below.refl _ _).alloc (Nat.le_refl _) _
  have HB := Lib.hid hB
  have hC : V.heap[w.heap.size]? = some (.cells #[.string ⟨#[104, 97, 110, 100]⟩, .string ⟨#[72, 65, 78, 68]⟩, .string ⟨#[82, 79, 76, 69]⟩] 9 (0, 0)) := by rw [hV]; exact new_heap w _
  have k0 := cell_h (k := 0) hC rfl
  have k1 := cell_h (k := 1) hC rfl
  have k2 := cell_h (k := 2) hC rfl
  have hCl := (Array.getElem?_eq_some_iff.1 hC).1
  have HC := Lib.hid hC
  have hW := HW.out.keep hB
  have hG := HG.out.keep hB
  have c0 := hW.c0
  have c1 := hW.c1
  have c2 := hW.c2
  have HN := Lib.hid (kind_ann V)
  have HH := Lib.hid (kind_hand V)
  have HG2 := Lib.hid hG
  have HW2 := Lib.hid hW
  have m0 : min (0 : Int) 2 = 0 := by decide
  have m1 : min (1 : Int) 2 = 1 := by decide
  have m2 : min (2 : Int) 2 = 2 := by decide
  clear hV hB HS hC HG HW hG hW
  go_wp2_with fail
  refine wp_loop_rounds 4 ?_
  rw [rounds_succ]
  go_wp2_with fail
  refine HH.out.mono ?_
  rintro e w9 ⟨rfl, rfl⟩
  clear HH
  go_wp2_with fail
  rw [rounds_succ]
  go_wp2_with fail
  refine HN.out.mono ?_
  rintro e V2 ⟨rfl, hB⟩
  clear c0 c1 c2 k0 k1 k2 HN
  have hC := (hB.block _ hCl).trans HC.out
  have k2 := cell_h (k := 2) hC rfl
  have c2 := (HW2.out.keep hB).c2
  have HR := Lib.hid (kind_run V2 (HG2.out.keep hB))
  have HB2 := Lib.hid (low_trans HB.out hB)
  clear hB hC HB HW2 HG2 HC hCl
  go_wp2_with fail
  rw [rounds_succ]
  go_wp2_with fail
  refine HR.out.mono ?_
  rintro e w9 ⟨rfl, rfl⟩
  clear HR
  go_wp2_with fail
  rw [rounds_succ]
  go_wp2_with fail
  go_ret
  exact ⟨rfl, HB2.out⟩
end Go.Proofs.YtmdniebedflpbaaGreatDoor
