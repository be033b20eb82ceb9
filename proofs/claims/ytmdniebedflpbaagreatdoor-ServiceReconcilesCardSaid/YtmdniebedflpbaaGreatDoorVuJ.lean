/-
  WALKS: the line 'hand ann run': Do.
-/
import Derived.Test.YtmdniebedflpbaaGreatDoorVuI
import Derived.Defers
import Derived.Recover
namespace Go.Proofs.YtmdniebedflpbaaGreatDoor
open Go.RowKit

/-- The line. -/
def ln : ByteArray := ⟨#[104, 97, 110, 100, 32, 97, 110, 110, 32, 114, 117, 110]⟩
theorem split_ln (w : World) (hG : Gl w) : Calls Tryz.prog 74 #[.string ⟨#[104, 97, 110, 100, 32, 97, 110, 110, 32, 114, 117, 110]⟩, .string ⟨#[32]⟩] w fun e w' => e = .returned (.slice (some ⟨w.heap.size, 0, none⟩) 3 3) ∧ Wd w' w.heap.size ∧ Below w.heap.size w w' := by
  refine (split_of w ⟨#[104, 97, 110, 100, 32, 97, 110, 110, 32, 114, 117, 110]⟩ 3 [⟨#[104, 97, 110, 100]⟩, ⟨#[97, 110, 110]⟩, ⟨#[114, 117, 110]⟩] (by decide) (by decide +kernel) (by decide +kernel) hG).mono ?_
  rintro e V ⟨he, rfl⟩
  have h := new_heap w (.cells ([⟨#[104, 97, 110, 100]⟩, ⟨#[97, 110, 110]⟩, ⟨#[114, 117, 110]⟩].map Value.string).toArray 9)
  exact ⟨he, ⟨cell_h h rfl, cell_h h rfl, cell_h h rfl⟩, (Below.refl _ _).alloc (Nat.le_refl _) _⟩

set_option maxRecDepth 100000 in
set_option maxHeartbeats 4000000 in
/-- The deferred closure behind a call that returns. -/
theorem caught_idle (p : Addr) (w : World) : CallsD Tryz.prog 78 #[.pointer (some p)] .returning w fun e u' w' => e = .returned (.tuple #[]) ∧ u' = .returning ∧ w' = w := by
  have hta : ∀ w, (Instr.typeAssert .nilIface 20 25 true).run Tryz.prog w = .ok (.tuple #[.int .i64 0, .bool false]) w := fun _ => by rfl
  refine callsD_of_wpS Tryz.func78 rfl fun c₀ cs hu => ?_
  apply wpS_seq
  apply wpS_region
  simp [wpOpsS, go_sem, recoverD, hu, hta, Tryz.ntmps78, Exit.thenS]
  apply wpS_seq
  apply wpS_region
  simp [wpOpsS, go_sem, Exit.thenS]
  refine wpS_cond (t := false) (by simp [Act.eval, Array.replicate]) ?_
  simp only [Bool.false_eq_true, if_false]
  refine wpS_of_wp (wp_skip ?_)
  cases c₀
  simp_all [bodyPostS, results, Tryz.results78]

theorem BelowX.cellX {B X : Nat} {w w' : World} (h : BelowX B X w w') {b o : Nat} (hb : b < B) (hx : b ≠ X) : w'.cell? ⟨b, o, none⟩ = w.cell? ⟨b, o, none⟩ := World.cell?_of_block (w := w) (h.block b hb hx)
theorem Gl.keepX {w w' : World} {b : Nat} (h : Gl w) (hk : BkE w b (.slice none 0 0)) (hb : BelowX w.heap.size b w w') : Gl w' := by
  have k : ∀ (g o : Nat) (v : Value), w.cell? ⟨g, o, none⟩ = some v → g ≠ b → w'.cell? ⟨g, o, none⟩ = some v := fun g o v hc hg => (hb.cellX (World.block_lt_of_cell? w _ hc) hg).trans hc
  obtain ⟨m, hm⟩ := h.mx
  have n1 : 1 ≠ b := fun e => by
    have := cell_h (k := 0) hk rfl
    rw [← e, hm] at this
    exact absurd this (by simp)
  have n2 : 8 ≠ b := fun e => by
    have h2 := h.tz
    rw [e] at h2
    simp [World.cell?, show w.heap[b]? = _ from hk] at h2
  have n3 : 0 ≠ b := fun e => by
    have := cell_h (k := 0) hk rfl
    rw [← e, h.r0] at this
    exact absurd this (by simp)
  exact ⟨⟨m, k _ _ _ hm n1⟩, k _ _ _ h.tz n2, k _ _ _ h.r0 n3, k _ _ _ h.r1 n3, k _ _ _ h.r2 n3, k _ _ _ h.r3 n3⟩

set_option maxRecDepth 100000 in
set_option maxHeartbeats 8000000 in
theorem do_hand (w : World) (b : Nat) (hb : BkE w b (.slice none 0 0)) (hG : Gl w) :
    Calls Tryz.prog 34 #[.pointer (some ⟨b, 0, none⟩), .string ⟨#[104, 97, 110, 100, 32, 97, 110, 110, 32, 114, 117, 110]⟩] w fun e w' => e = .returned (.int .i64 0) ∧ BelowX w.heap.size b w w' := by
  have HN : Hid (∀ W x, Calls Tryz.prog 79 #[.bool true, .int .i64 x] W fun e w' => e = .returned (.tuple #[]) ∧ w' = W) := fun W x => need_yes W x
  have hmf : ∀ (fn : Fn) (first cap : Array Value) (w : World), (Instr.makeFunc fn first cap).run Tryz.prog w = .ok (.func fn first cap) w := fun _ _ _ _ => rfl
  have hbl : b < w.heap.size := (Array.getElem?_eq_some_iff.1 hb).1
  have HK := Lib.hid hb
  have HG := Lib.hid hG
  clear hb hG
  go_enter_defers Tryz.func34, Tryz.ntmps34
  go_wp2_with fail
  have hB0 : Below w.heap.size w (w.alloc (.cells #[.int .i64 0] 25)) := (Below.refl _ _).alloc (Nat.le_refl _) _
  have hr0 := new_heap w (.cells #[.int .i64 0] 25)
  generalize w.alloc (.cells #[.int .i64 0] 25) = W at hB0 hr0 ⊢
  have HB0 := Lib.hid hB0
  have HR0 := Lib.hid hr0
  have HG0 := Lib.hid (HG.out.keep hB0)
  have HK0 := Lib.hid (HK.out.keep hB0)
  have hlt0 := (Array.getElem?_eq_some_iff.1 hr0).1
  clear hB0 hr0 HG HK
  refine (HN.out _ _).mono ?_
  rintro e w9 ⟨rfl, rfl⟩
  go_wp2_with fail
  refine (HN.out _ _).mono ?_
  rintro e w8 ⟨rfl, rfl⟩
  go_wp2_with fail
  refine (split_ln _ HG0.out).mono ?_
  rintro e V ⟨rfl, hW, hB⟩
  have HB1 := Lib.hid (low_trans HB0.out hB)
  have HR1 := Lib.hid ((hB.block _ hlt0).trans HR0.out)
  have HG1 := Lib.hid (HG0.out.keep hB)
  have HK1 := Lib.hid (HK0.out.keep hB)
  have HW1 := Lib.hid hW
  have c0 := hW.c0
  clear hB hW HB0 HR0 HG0 HK0 hlt0
  go_upto_region 5 with fail
  have HD : Hid (Below V.heap.size V V.drew) := (Below.refl _ _).drew
  have c0' : V.drew.cell? ⟨w8.heap.size, 0, none⟩ = some (.string ⟨#[104, 97, 110, 100]⟩) := c0
  have hl := look_hand (V.alloc (.map cmdE 9)).drew V.heap.size (new_heap V (.map cmdE 9))
  have hdd : Below V.drew.heap.size V.drew (V.drew.alloc (.map cmdE 9)) := (Below.refl _ _).alloc (Nat.le_refl _) _
  go_region_held3 (fun W' => W'.cell? ⟨w8.heap.size, 0, none⟩ = some (.string ⟨#[104, 97, 110, 100]⟩)) (first | (with_reducible assumption) | go_keep) ((go_at_call 80; refine (commands_of _).mono ?_; rintro e V2 ⟨rfl, rfl⟩; have d0 : (V.drew.alloc (.map cmdE 9)).cell? ⟨w8.heap.size, 0, none⟩ = some (.string ⟨#[104, 97, 110, 100]⟩) := (hdd.cell (p := ⟨w8.heap.size, 0, none⟩) (World.block_lt_of_cell? _ _ c0')).trans c0'))
  have hY : Below V.heap.size V (V.alloc (.map cmdE 9)).drew := ((Below.refl _ _).alloc (Nat.le_refl _) _).drew
  clear hl d0 hdd HD c0 c0'
  generalize (V.alloc (.map cmdE 9)).drew = Y at hY ⊢
  have hYl := low_trans HB1.out hY
  have HBY := Lib.hid hYl
  have HRY := Lib.hid ((hY.block _ (Array.getElem?_eq_some_iff.1 HR1.out).1).trans HR1.out)
  have HGY := Lib.hid (HG1.out.keep hY)
  have HKY := Lib.hid (HK1.out.keep hY)
  have HWY := Lib.hid (HW1.out.keep hY)
  clear hY hYl HB1 HR1 HG1 HK1 HW1
  go_wp2_with fail
  refine (HN.out _ _).mono ?_
  rintro e w7 ⟨rfl, rfl⟩
  clear HN
  go_wp2_with fail
  refine (hire_of _ b _ HKY.out HWY.out HGY.out).mono ?_
  rintro e Y2 ⟨rfl, ⟨bv, hbk⟩, hx⟩
  have HG2 := Lib.hid (HGY.out.keepX HKY.out hx)
  have HK2 := Lib.hid hbk
  have HR2 := Lib.hid ((hx.block _ (Array.getElem?_eq_some_iff.1 HRY.out).1 (by omega)).trans HRY.out)
  have HX2 := Lib.hid ((BelowX.of (X := b) HBY.out).trans (hx.mono HBY.out.size))
  clear hbk hx HGY HKY HRY HBY HWY
  go_wp2_with fail
  refine (enter_of _ b bv _ HK2.out (by decide) HG2.out).mono ?_
  rintro e Y3 ⟨rfl, hx⟩
  have hR3 := (hx.block _ (Array.getElem?_eq_some_iff.1 HR2.out).1 (by omega)).trans HR2.out
  have HX3 := Lib.hid (HX2.out.trans (hx.mono HX2.out.size))
  have r0 := cell_h (k := 0) hR3 rfl
  have rf := fz_h hR3 0
  clear hx hR3 HR2 HG2 HK2 HX2
  go_wp2_with fail
  refine leaves_cons (f := 78) (args := #[.pointer (some ⟨w.heap.size, 0, none⟩)]) (by simp) (by simp [go_sem]) ?_
  refine (caught_idle _ _).mono ?_
  rintro e u' w'' ⟨rfl, rfl, rfl⟩
  have hB := (HX3.out).trans ((BelowX.of (X := b) ((Below.refl w.heap.size Y3).setCell (p := ⟨w.heap.size, 0, none⟩) (Nat.le_refl _) (.int .i64 0))))
  have HB := Lib.hid hB
  clear hB HX3
  simp [Leaves, settle, results, Tryz.results34, go_sem, r0]
  exact HB.out
end Go.Proofs.YtmdniebedflpbaaGreatDoor
