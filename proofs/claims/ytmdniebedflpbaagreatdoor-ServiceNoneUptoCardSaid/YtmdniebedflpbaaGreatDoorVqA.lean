/-
  WALKS: a nil book, and a new one (for ServiceNone): known, indexOf, Item, Trace, Papers, Run, Hands, Blocks, Items, Reports, Suspects.
-/
import Derived.Test.YtmdniebedflpbaaGreatDoorVuL
import Derived.WalkLawsBesides
namespace Go.Proofs.YtmdniebedflpbaaGreatDoor
open Go.RowKit

/-- No book, or an empty one. -/
def Emp (W : World) (p : Option Addr) : Prop := p = none ∨ ∃ b, p = some ⟨b, 0, none⟩ ∧ BkE W b (.slice none 0 0)
theorem Emp.keep {W W' : World} {p : Option Addr} (h : Emp W p) (hb : Below W.heap.size W W') : Emp W' p := by
  rcases h with h | ⟨b, h, hk⟩
  · exact .inl h
  · exact .inr ⟨b, h, hk.keep hb⟩

set_option maxRecDepth 100000 in
set_option maxHeartbeats 4000000 in
theorem known_of (w : World) (p : Option Addr) (h : Emp w p) : Calls Tryz.prog 63 #[.pointer p] w fun e W => e = .returned (.agg #[.slice none 0 0, .slice none 0 0, .slice none 0 0, .slice none 0 0, .slice none 0 0, .int .u64 0]) ∧ Below w.heap.size w W := by
  rcases h with rfl | ⟨b, rfl, hk⟩
  · go_enter Tryz.func63, Tryz.ntmps63
    go_wp2_with fail
    refine bodyPost_ret (v := .agg #[.slice none 0 0, .slice none 0 0, .slice none 0 0, .slice none 0 0, .slice none 0 0, .int .u64 0]) (by simp [results, Tryz.f63, go_sem]) rfl ⟨rfl, ?_⟩
    exact (Below.refl _ _).alloc (Nat.le_refl _) _
  · have s0 := cell_h (k := 0) hk rfl
    have s1 := cell_h (k := 1) hk rfl
    have s2 := cell_h (k := 2) hk rfl
    have s3 := cell_h (k := 3) hk rfl
    have s4 := cell_h (k := 4) hk rfl
    have s5 := cell_h (k := 5) hk rfl
    have hlt := (Array.getElem?_eq_some_iff.1 hk).1
    have hne : b ≠ w.heap.size := by omega
    clear hk
    go_enter Tryz.func63, Tryz.ntmps63
    go_wp2_with fail
    refine bodyPost_ret (v := .agg #[.slice none 0 0, .slice none 0 0, .slice none 0 0, .slice none 0 0, .slice none 0 0, .int .u64 0]) (by simp [results, Tryz.f63, go_sem]) rfl ⟨rfl, ?_⟩
    exact (Below.refl _ _).alloc (Nat.le_refl _) _

set_option maxRecDepth 100000 in
set_option maxHeartbeats 4000000 in
theorem idxF_of (w : World) (s : ByteArray) : Calls Tryz.prog 64 #[.slice none 0 0, .string s] w fun e W => e = .returned (.int .i64 (-1)) ∧ Below w.heap.size w W := by
  have hmf : ∀ (fn : Fn) (first cap : Array Value) (w : World), (Instr.makeFunc fn first cap).run Tryz.prog w = .ok (.func fn first cap) w := fun _ _ _ _ => rfl
  have h1 : ∀ (w : World) (f : Value), Calls Tryz.prog 90 #[.slice none 0 0, f] w fun e W => e = .returned (.int .i64 (-1)) ∧ W = w := fun w f => by
    go_enter Tryz.func90, Tryz.ntmps90
    go_wp2_with fail
    go_loopw [5, 8] (fun v5 v8 wr => v8 = .int .i64 0 ∧ wr = w) (fun _ _ _ => 0)
    case atStart => exact ⟨rfl, rfl⟩
    case round =>
      obtain ⟨rfl, rfl⟩ := hrel
      go_wp2_with fail
      go_ret
      exact ⟨rfl, rfl⟩
  have H1 := Lib.hid h1
  clear h1
  go_enter Tryz.func64, Tryz.ntmps64
  go_wp2_with fail
  refine (H1.out _ _).mono ?_
  rintro e W ⟨rfl, rfl⟩
  go_wp2_with fail
  go_ret
  exact ⟨rfl, (Below.refl _ _).alloc (Nat.le_refl _) _⟩
set_option maxRecDepth 100000 in
set_option maxHeartbeats 4000000 in
theorem idxR_of (w : World) (s : ByteArray) : Calls Tryz.prog 66 #[.slice none 0 0, .string s] w fun e W => e = .returned (.int .i64 (-1)) ∧ Below w.heap.size w W := by
  have hmf : ∀ (fn : Fn) (first cap : Array Value) (w : World), (Instr.makeFunc fn first cap).run Tryz.prog w = .ok (.func fn first cap) w := fun _ _ _ _ => rfl
  have h1 : ∀ (w : World) (f : Value), Calls Tryz.prog 92 #[.slice none 0 0, f] w fun e W => e = .returned (.int .i64 (-1)) ∧ W = w := fun w f => by
    go_enter Tryz.func92, Tryz.ntmps92
    go_wp2_with fail
    go_loopw [5, 8] (fun v5 v8 wr => v8 = .int .i64 0 ∧ wr = w) (fun _ _ _ => 0)
    case atStart => exact ⟨rfl, rfl⟩
    case round =>
      obtain ⟨rfl, rfl⟩ := hrel
      go_wp2_with fail
      go_ret
      exact ⟨rfl, rfl⟩
  have H1 := Lib.hid h1
  clear h1
  go_enter Tryz.func66, Tryz.ntmps66
  go_wp2_with fail
  refine (H1.out _ _).mono ?_
  rintro e W ⟨rfl, rfl⟩
  go_wp2_with fail
  go_ret
  exact ⟨rfl, (Below.refl _ _).alloc (Nat.le_refl _) _⟩

set_option maxRecDepth 100000 in
set_option maxHeartbeats 4000000 in
theorem run_nil (w : World) (s : ByteArray) : Calls Tryz.prog 33 #[.pointer none, .string s] w fun e W => e = .returned (.tuple #[.string ⟨#[]⟩, .int .i64 0, .int .i64 1]) ∧ Below w.heap.size w W := by
  go_enter Tryz.func33, Tryz.ntmps33
  go_wp2_with fail
  refine bodyPost_ret (v := .tuple #[.string ⟨#[]⟩, .int .i64 0, .int .i64 1]) (by simp [results, Tryz.f33, go_sem]) rfl ⟨rfl, Below.refl _ _⟩

set_option maxRecDepth 100000 in
set_option maxHeartbeats 4000000 in
theorem item_nil (w : World) (s : ByteArray) : Calls Tryz.prog 30 #[.pointer none, .string s] w fun e W => e = .returned (.tuple #[.agg #[.string ⟨#[]⟩, .int .i64 0, .int .i64 0, .int .i64 0, .slice none 0 0, .string ⟨#[]⟩, .string ⟨#[]⟩, .string ⟨#[]⟩], .int .i64 5]) ∧ Below w.heap.size w W := by
  have HK : Hid (∀ W, Emp W none → Calls Tryz.prog 63 #[.pointer none] W fun e w' => e = .returned (.agg #[.slice none 0 0, .slice none 0 0, .slice none 0 0, .slice none 0 0, .slice none 0 0, .int .u64 0]) ∧ Below W.heap.size W w') := fun W h => known_of W none h
  have HI : Hid (∀ W, Calls Tryz.prog 64 #[.slice none 0 0, .string s] W fun e w' => e = .returned (.int .i64 (-1)) ∧ Below W.heap.size W w') := fun W => idxF_of W s
  have hfl : ∀ W, (Instr.field 120 (.agg #[.slice none 0 0, .slice none 0 0, .slice none 0 0, .slice none 0 0, .slice none 0 0, .int .u64 0]) 2).run Tryz.prog W = .ok (.slice none 0 0) W := fun _ => by rfl
  go_enter Tryz.func30, Tryz.ntmps30
  go_wp2_with fail
  refine (HK.out _ (.inl rfl)).mono ?_
  rintro e V ⟨rfl, hB⟩
  have k0 := (hB.block _ (by simp)).trans (new_heap w _)
  have HB := Lib.hid (low_trans ((Below.refl _ _).alloc (Nat.le_refl _) _) hB)
  have K0 := Lib.hid k0
  clear hB k0 HK
  go_wp2_with fail
  refine (HI.out _).mono ?_
  rintro e V2 ⟨rfl, hB⟩
  have k0 := (hB.block _ (Array.getElem?_eq_some_iff.1 K0.out).1).trans K0.out
  have HB2 := Lib.hid (low_trans HB.out hB)
  clear hB HI HB K0
  have s0 : V2.cell? ⟨w.heap.size, 0, none⟩ = some (.string ⟨#[]⟩) := cell_h (k := 0) k0 rfl
  have s1 : V2.cell? ⟨w.heap.size, 1, none⟩ = some (.int .i64 0) := cell_h (k := 1) k0 rfl
  have s2 : V2.cell? ⟨w.heap.size, 2, none⟩ = some (.int .i64 0) := cell_h (k := 2) k0 rfl
  have s3 : V2.cell? ⟨w.heap.size, 3, none⟩ = some (.int .i64 0) := cell_h (k := 3) k0 rfl
  have s4 : V2.cell? ⟨w.heap.size, 4, none⟩ = some (.slice none 0 0) := cell_h (k := 4) k0 rfl
  have s5 : V2.cell? ⟨w.heap.size, 5, none⟩ = some (.string ⟨#[]⟩) := cell_h (k := 5) k0 rfl
  have s6 : V2.cell? ⟨w.heap.size, 6, none⟩ = some (.string ⟨#[]⟩) := cell_h (k := 6) k0 rfl
  have s7 : V2.cell? ⟨w.heap.size, 7, none⟩ = some (.string ⟨#[]⟩) := cell_h (k := 7) k0 rfl
  have f0 := fz_h k0
  clear k0
  go_wp2_with fail
  refine bodyPost_ret (v := .tuple #[.agg #[.string ⟨#[]⟩, .int .i64 0, .int .i64 0, .int .i64 0, .slice none 0 0, .string ⟨#[]⟩, .string ⟨#[]⟩, .string ⟨#[]⟩], .int .i64 5]) (by simp [results, Tryz.f30, go_sem, s0, s1, s2, s3, s4, s5, s6, s7]) rfl ⟨rfl, ?_⟩
  iterate 8 refine Below.setCell ?_ (by simp) _
  exact HB2.out

set_option maxRecDepth 100000 in
set_option maxHeartbeats 4000000 in
theorem trace_nil (w : World) (s : ByteArray) : Calls Tryz.prog 31 #[.pointer none, .string s] w fun e W => e = .returned (.tuple #[.slice none 0 0, .int .i64 5]) ∧ Below w.heap.size w W := by
  have HK : Hid (∀ W, Emp W none → Calls Tryz.prog 63 #[.pointer none] W fun e w' => e = .returned (.agg #[.slice none 0 0, .slice none 0 0, .slice none 0 0, .slice none 0 0, .slice none 0 0, .int .u64 0]) ∧ Below W.heap.size W w') := fun W h => known_of W none h
  have HI : Hid (∀ W, Calls Tryz.prog 66 #[.slice none 0 0, .string s] W fun e w' => e = .returned (.int .i64 (-1)) ∧ Below W.heap.size W w') := fun W => idxR_of W s
  go_enter Tryz.func31, Tryz.ntmps31
  go_wp2_with fail
  refine (HK.out _ (.inl rfl)).mono ?_
  rintro e V ⟨rfl, hB⟩
  have HB := Lib.hid hB
  clear hB HK
  go_upto_region 2 with fail
  have s3 : (V.alloc (.cells #[.slice none 0 0, .slice none 0 0, .slice none 0 0, .slice none 0 0, .slice none 0 0, .int .u64 0] 120)).cell? ⟨V.heap.size, 3, none⟩ = some (.slice none 0 0) := cell_h (k := 3) (new_heap V _) rfl
  have HB1 := Lib.hid (HB.out.alloc HB.out.size (.cells #[.slice none 0 0, .slice none 0 0, .slice none 0 0, .slice none 0 0, .slice none 0 0, .int .u64 0] 120))
  generalize V.alloc (.cells #[.slice none 0 0, .slice none 0 0, .slice none 0 0, .slice none 0 0, .slice none 0 0, .int .u64 0] 120) = V1 at s3 HB1 ⊢
  generalize V.heap.size = g at s3 ⊢
  clear HB
  go_wp2_with fail
  refine (HI.out _).mono ?_
  rintro e V2 ⟨rfl, hB⟩
  have HB2 := Lib.hid (low_trans HB1.out hB)
  clear hB HI HB1 s3
  go_wp2_with fail
  refine bodyPost_ret (v := .tuple #[.slice none 0 0, .int .i64 5]) (by simp [results, Tryz.f31, go_sem]) rfl ⟨rfl, HB2.out⟩

set_option maxRecDepth 100000 in
set_option maxHeartbeats 4000000 in
theorem papers_nil (w : World) (s : ByteArray) : Calls Tryz.prog 32 #[.pointer none, .string s] w fun e W => e = .returned (.tuple #[.string ⟨#[]⟩, .int .i64 5]) ∧ Below w.heap.size w W := by
  have HK : Hid (∀ W, Emp W none → Calls Tryz.prog 63 #[.pointer none] W fun e w' => e = .returned (.agg #[.slice none 0 0, .slice none 0 0, .slice none 0 0, .slice none 0 0, .slice none 0 0, .int .u64 0]) ∧ Below W.heap.size W w') := fun W h => known_of W none h
  have HI : Hid (∀ W, Calls Tryz.prog 66 #[.slice none 0 0, .string s] W fun e w' => e = .returned (.int .i64 (-1)) ∧ Below W.heap.size W w') := fun W => idxR_of W s
  go_enter Tryz.func32, Tryz.ntmps32
  go_wp2_with fail
  refine (HK.out _ (.inl rfl)).mono ?_
  rintro e V ⟨rfl, hB⟩
  have HB := Lib.hid hB
  clear hB HK
  go_upto_region 2 with fail
  have s3 : (V.alloc (.cells #[.slice none 0 0, .slice none 0 0, .slice none 0 0, .slice none 0 0, .slice none 0 0, .int .u64 0] 120)).cell? ⟨V.heap.size, 3, none⟩ = some (.slice none 0 0) := cell_h (k := 3) (new_heap V _) rfl
  have HB1 := Lib.hid (HB.out.alloc HB.out.size (.cells #[.slice none 0 0, .slice none 0 0, .slice none 0 0, .slice none 0 0, .slice none 0 0, .int .u64 0] 120))
  generalize V.alloc (.cells #[.slice none 0 0, .slice none 0 0, .slice none 0 0, .slice none 0 0, .slice none 0 0, .int .u64 0] 120) = V1 at s3 HB1 ⊢
  generalize V.heap.size = g at s3 ⊢
  clear HB
  go_wp2_with fail
  refine (HI.out _).mono ?_
  rintro e V2 ⟨rfl, hB⟩
  have HB2 := Lib.hid (low_trans HB1.out hB)
  clear hB HI HB1 s3
  go_wp2_with fail
  refine bodyPost_ret (v := .tuple #[.string ⟨#[]⟩, .int .i64 5]) (by simp [results, Tryz.f32, go_sem]) rfl ⟨rfl, HB2.out⟩

set_option maxRecDepth 100000 in
set_option maxHeartbeats 4000000 in
theorem hands_of (w : World) (P : Option Addr) (hE : Emp w P) : Calls Tryz.prog 36 #[.pointer P] w fun e W => e = .returned (.slice none 0 0) ∧ Below w.heap.size w W := by
  have HK : Hid (∀ W, Emp W P → Calls Tryz.prog 63 #[.pointer P] W fun e w' => e = .returned (.agg #[.slice none 0 0, .slice none 0 0, .slice none 0 0, .slice none 0 0, .slice none 0 0, .int .u64 0]) ∧ Below W.heap.size W w') := fun W h => known_of W P h
  have HE := Lib.hid hE
  clear hE
  have hfl : ∀ W, (Instr.field 120 (.agg #[.slice none 0 0, .slice none 0 0, .slice none 0 0, .slice none 0 0, .slice none 0 0, .int .u64 0]) 0).run Tryz.prog W = .ok (.slice none 0 0) W := fun _ => by rfl
  go_enter Tryz.func36, Tryz.ntmps36
  go_wp2_with fail
  refine (HK.out _ HE.out).mono ?_
  rintro e V ⟨rfl, hB⟩
  have HB := Lib.hid hB
  clear hB HK HE
  go_wp2_with fail
  go_loopw [3, 5, 10] (fun v3 v5 v10 wr => v3 = .slice none 0 0 ∧ v10 = .int .i64 0 ∧ wr = V) (fun _ _ _ _ => 0)
  case atStart => exact ⟨rfl, rfl, rfl⟩
  case round =>
    obtain ⟨rfl, rfl, rfl⟩ := hrel
    go_wp2_with fail
    go_ret
    exact ⟨rfl, HB.out⟩

set_option maxRecDepth 100000 in
set_option maxHeartbeats 4000000 in
theorem items_of (w : World) (P : Option Addr) (hE : Emp w P) : Calls Tryz.prog 38 #[.pointer P] w fun e W => e = .returned (.slice none 0 0) ∧ Below w.heap.size w W := by
  have HK : Hid (∀ W, Emp W P → Calls Tryz.prog 63 #[.pointer P] W fun e w' => e = .returned (.agg #[.slice none 0 0, .slice none 0 0, .slice none 0 0, .slice none 0 0, .slice none 0 0, .int .u64 0]) ∧ Below W.heap.size W w') := fun W h => known_of W P h
  have HE := Lib.hid hE
  clear hE
  have hfl : ∀ W, (Instr.field 120 (.agg #[.slice none 0 0, .slice none 0 0, .slice none 0 0, .slice none 0 0, .slice none 0 0, .int .u64 0]) 2).run Tryz.prog W = .ok (.slice none 0 0) W := fun _ => by rfl
  go_enter Tryz.func38, Tryz.ntmps38
  go_wp2_with fail
  refine (HK.out _ HE.out).mono ?_
  rintro e V ⟨rfl, hB⟩
  have HB := Lib.hid hB
  clear hB HK HE
  go_wp2_with fail
  go_loopw [3, 5, 10] (fun v3 v5 v10 wr => v3 = .slice none 0 0 ∧ v10 = .int .i64 0 ∧ wr = V) (fun _ _ _ _ => 0)
  case atStart => exact ⟨rfl, rfl, rfl⟩
  case round =>
    obtain ⟨rfl, rfl, rfl⟩ := hrel
    go_wp2_with fail
    go_ret
    exact ⟨rfl, HB.out⟩

set_option maxRecDepth 100000 in
set_option maxHeartbeats 4000000 in
theorem reports_of (w : World) (P : Option Addr) (hE : Emp w P) : Calls Tryz.prog 39 #[.pointer P] w fun e W => e = .returned (.slice none 0 0) ∧ Below w.heap.size w W := by
  have HK : Hid (∀ W, Emp W P → Calls Tryz.prog 63 #[.pointer P] W fun e w' => e = .returned (.agg #[.slice none 0 0, .slice none 0 0, .slice none 0 0, .slice none 0 0, .slice none 0 0, .int .u64 0]) ∧ Below W.heap.size W w') := fun W h => known_of W P h
  have HE := Lib.hid hE
  clear hE
  have hfl : ∀ W, (Instr.field 120 (.agg #[.slice none 0 0, .slice none 0 0, .slice none 0 0, .slice none 0 0, .slice none 0 0, .int .u64 0]) 3).run Tryz.prog W = .ok (.slice none 0 0) W := fun _ => by rfl
  go_enter Tryz.func39, Tryz.ntmps39
  go_wp2_with fail
  refine (HK.out _ HE.out).mono ?_
  rintro e V ⟨rfl, hB⟩
  have HB := Lib.hid hB
  clear hB HK HE
  go_wp2_with fail
  go_loopw [3, 5, 10] (fun v3 v5 v10 wr => v3 = .slice none 0 0 ∧ v10 = .int .i64 0 ∧ wr = V) (fun _ _ _ _ => 0)
  case atStart => exact ⟨rfl, rfl, rfl⟩
  case round =>
    obtain ⟨rfl, rfl, rfl⟩ := hrel
    go_wp2_with fail
    go_ret
    exact ⟨rfl, HB.out⟩

set_option maxRecDepth 100000 in
set_option maxHeartbeats 4000000 in
theorem blocks_of (w : World) (P : Option Addr) (hE : Emp w P) : Calls Tryz.prog 37 #[.pointer P] w fun e W => e = .returned (.slice none 0 0) ∧ Below w.heap.size w W := by
  have HK : Hid (∀ W, Emp W P → Calls Tryz.prog 63 #[.pointer P] W fun e w' => e = .returned (.agg #[.slice none 0 0, .slice none 0 0, .slice none 0 0, .slice none 0 0, .slice none 0 0, .int .u64 0]) ∧ Below W.heap.size W w') := fun W h => known_of W P h
  have HE := Lib.hid hE
  have HC : Hid (∀ W, Calls Tryz.prog 82 #[.slice none 0 0] W fun e w' => e = .returned (.slice none 0 0) ∧ w' = W) := fun W => by
    have heq : ∀ W, (binOp .eql 84 (.slice none 0 0) (.slice none 0 0)).run Tryz.prog W = .ok (.bool true) W := fun _ => by rfl
    go_enter Tryz.func82, Tryz.ntmps82
    go_wp2_with fail
    go_ret
    exact ⟨rfl, rfl⟩
  clear hE
  have hfl : ∀ W, (Instr.field 120 (.agg #[.slice none 0 0, .slice none 0 0, .slice none 0 0, .slice none 0 0, .slice none 0 0, .int .u64 0]) 1).run Tryz.prog W = .ok (.slice none 0 0) W := fun _ => by rfl
  go_enter Tryz.func37, Tryz.ntmps37
  go_wp2_with fail
  refine (HK.out _ HE.out).mono ?_
  rintro e V ⟨rfl, hB⟩
  have HB := Lib.hid hB
  clear hB HK HE
  go_wp2_with fail
  refine (HC.out _).mono ?_
  rintro e w9 ⟨rfl, rfl⟩
  go_wp2_with fail
  go_ret
  exact ⟨rfl, HB.out⟩
end Go.Proofs.YtmdniebedflpbaaGreatDoor
