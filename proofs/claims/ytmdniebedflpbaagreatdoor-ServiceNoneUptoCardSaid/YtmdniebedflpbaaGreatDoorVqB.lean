/-
  WALKS: a nil book: Suspects, Ledger, Same, Do, Answer (for ServiceNone).
-/
import Derived.Test.YtmdniebedflpbaaGreatDoorVqA
import Derived.Defers
import Derived.Recover
namespace Go.Proofs.YtmdniebedflpbaaGreatDoor
open Go.RowKit

set_option maxRecDepth 100000 in
set_option maxHeartbeats 4000000 in
theorem bstr_nil (w : World) (g : Nat) (h : w.heap[g]? = some (.cells #[.pointer none, .slice none 0 0] 137 (0, 0))) : Calls Tryz.prog 76 #[.pointer (some ⟨g, 0, none⟩)] w fun e w' => e = .returned (.string ⟨#[]⟩) ∧ Below w.heap.size w w' := by
  have s1 : w.drew.cell? ⟨g, 1, none⟩ = some (.slice none 0 0) := cell_h (k := 1) h rfl
  have HB : Hid (Below w.heap.size w w.drew) := (Below.refl _ _).drew
  clear h
  go_enter Tryz.func76, Tryz.ntmps76
  have hsd : ∀ W, (Builtin.unsafeSliceData_ #[57] 174 #[.slice none 0 0]).run Tryz.prog W = .ok (.pointer none) W := fun _ => by rfl
  have hus : ∀ W, (Builtin.unsafeString_ #[174, 3] 9 #[.pointer none, .int .i64 0]).run Tryz.prog W = .ok (.string ⟨#[]⟩) W := fun _ => by rfl
  go_upto_region 1 with fail
  go_region
  all_goals go_wp2_with fail
  all_goals (go_ret; exact ⟨rfl, HB.out⟩)

set_option maxRecDepth 100000 in
set_option maxHeartbeats 4000000 in
theorem err_one (w : World) : Calls Tryz.prog 100 #[.int .i64 1] w fun e w' => e = .returned (.string ⟨#[49]⟩) ∧ w' = w := by
  have hrs : ∀ W, (convert 21 9 (.int .i32 49)).run Tryz.prog W = .ok (.string ⟨#[49]⟩) W := fun _ => by kernel_rfl
  go_enter Tryz.func100, Tryz.ntmps100
  go_wp2_with fail
  go_loopw [4, 5] (fun v4 v5 wr => wr = w ∧ ((v4 = .string ⟨#[]⟩ ∧ v5 = .int .u64 1) ∨ (v4 = .string ⟨#[49]⟩ ∧ v5 = .int .u64 0))) (fun _ v5 _ => (intOf v5).toNat)
  case atStart => exact ⟨rfl, .inl ⟨rfl, rfl⟩⟩
  case round =>
    obtain ⟨rfl, ⟨rfl, rfl⟩ | ⟨rfl, rfl⟩⟩ := hrel
    · go_wp2_with fail
      exact ⟨⟨trivial, .inr ⟨congrArg Value.string (by decide +kernel), rfl⟩⟩, by decide⟩
    · go_wp2_with fail
      go_ret
      exact ⟨rfl, rfl⟩

set_option maxRecDepth 100000 in
set_option maxHeartbeats 4000000 in
theorem need_no (w : World) : Calls Tryz.prog 79 #[.bool false, .int .i64 1] w fun e w' => e = .panicked [{ v := .iface 25 (.int .i64 1), recovered := false }] ∧ w' = w := by
  go_enter Tryz.func79, Tryz.ntmps79
  go_wp2_with fail
  exact ⟨rfl, rfl, rfl⟩

set_option maxRecDepth 100000 in
set_option maxHeartbeats 4000000 in
/-- The deferred closure behind a call that panics with an error. -/
theorem caught_panic (p : Addr) (w : World) (x : Value) (older : List PanicEntry) (hc : w.cell? p = some x) (hz : w.frozen? p = false) :
    CallsD Tryz.prog 78 #[.pointer (some p)] (.panicking ({ v := .iface 25 (.int .i64 1), recovered := false } :: older)) w fun e u' w' => e = .returned (.tuple #[]) ∧ u' = .panicking ({ v := .iface 25 (.int .i64 1), recovered := true } :: older) ∧ w' = w.setCell p (.int .i64 1) := by
  have hta : ∀ w, (Instr.typeAssert (.iface 25 (.int .i64 1)) 20 25 true).run Tryz.prog w = .ok (.tuple #[.int .i64 1, .bool true]) w := fun _ => by rfl
  refine callsD_of_wpS Tryz.func78 rfl fun c₀ cs hu => ?_
  apply wpS_seq
  apply wpS_region
  simp [wpOpsS, go_sem, recoverD, hu, hta, Tryz.ntmps78, Exit.thenS]
  apply wpS_seq
  apply wpS_region
  simp [wpOpsS, go_sem, Exit.thenS]
  refine wpS_cond (t := true) (by simp [Act.eval, Array.replicate]) ?_
  simp only [if_true]
  apply wpS_region
  simp [wpOpsS, go_sem, hc, hz, bodyPostS, results, Tryz.results78]

set_option maxRecDepth 100000 in
set_option maxHeartbeats 8000000 in
theorem do_nil (w : World) (s : ByteArray) : Calls Tryz.prog 34 #[.pointer none, .string s] w fun e w' => e = .returned (.int .i64 1) ∧ Below w.heap.size w w' := by
  have HN : Hid (∀ W, Calls Tryz.prog 79 #[.bool false, .int .i64 1] W fun e w' => e = .panicked [{ v := .iface 25 (.int .i64 1), recovered := false }] ∧ w' = W) := fun W => need_no W
  have hmf : ∀ (fn : Fn) (first cap : Array Value) (w : World), (Instr.makeFunc fn first cap).run Tryz.prog w = .ok (.func fn first cap) w := fun _ _ _ _ => rfl
  go_enter_defers Tryz.func34, Tryz.ntmps34
  go_wp2_with fail
  refine (HN.out _).mono ?_
  rintro e w9 ⟨rfl, rfl⟩
  clear HN
  go_wp2_with fail
  refine leaves_cons (f := 78) (args := #[.pointer (some ⟨w.heap.size, 0, none⟩)]) (by simp) (by simp [go_sem]) ?_
  have hr0 := new_heap w (.cells #[.int .i64 0] 25)
  refine (caught_panic ⟨w.heap.size, 0, none⟩ _ (.int .i64 0) [] (cell_h (k := 0) hr0 rfl) (fz_h hr0 0)).mono ?_
  rintro e u' w'' ⟨rfl, rfl, rfl⟩
  have hB : Below w.heap.size w ((w.alloc (.cells #[.int .i64 0] 25)).setCell ⟨w.heap.size, 0, none⟩ (.int .i64 1)) := ((Below.refl _ _).alloc (Nat.le_refl _) _).setCell (Nat.le_refl _) _
  have HB := Lib.hid hB
  have hc : ((w.alloc (.cells #[.int .i64 0] 25)).setCell ⟨w.heap.size, 0, none⟩ (.int .i64 1)).cell? ⟨w.heap.size, 0, none⟩ = some (.int .i64 1) := cell_h (k := 0) (heap_set hr0 (.int .i64 1)) rfl
  generalize (w.alloc (.cells #[.int .i64 0] 25)).setCell ⟨w.heap.size, 0, none⟩ (.int .i64 1) = W at HB hc ⊢
  clear hB hr0
  simp [Leaves, settle, results, Tryz.results34, go_sem, hc]
  exact HB.out
set_option maxRecDepth 100000 in
set_option maxHeartbeats 4000000 in
theorem suspects_nil (w : World) : Calls Tryz.prog 40 #[.pointer none] w fun e W => e = .returned (.slice none 0 0) ∧ Below w.heap.size w W := by
  have HK : Hid (∀ W, Emp W none → Calls Tryz.prog 63 #[.pointer none] W fun e w' => e = .returned (.agg #[.slice none 0 0, .slice none 0 0, .slice none 0 0, .slice none 0 0, .slice none 0 0, .int .u64 0]) ∧ Below W.heap.size W w') := fun W h => known_of W none h
  go_enter Tryz.func40, Tryz.ntmps40
  go_wp2_with fail
  refine (HK.out _ (.inl rfl)).mono ?_
  rintro e V ⟨rfl, hB⟩
  have HB := Lib.hid hB
  clear hB HK
  go_upto_region 3 with fail
  have k0 := al_old (new_heap V (.cells #[.slice none 0 0, .slice none 0 0, .slice none 0 0, .slice none 0 0, .slice none 0 0, .int .u64 0] 120)) (.cells #[.slice none 0 0] 69)
  have HB1 := Lib.hid ((HB.out.alloc HB.out.size (.cells #[.slice none 0 0, .slice none 0 0, .slice none 0 0, .slice none 0 0, .slice none 0 0, .int .u64 0] 120)).alloc (by simp; have := HB.out.size; omega) (.cells #[.slice none 0 0] 69))
  generalize (V.alloc (.cells #[.slice none 0 0, .slice none 0 0, .slice none 0 0, .slice none 0 0, .slice none 0 0, .int .u64 0] 120)).alloc (.cells #[.slice none 0 0] 69) = V1 at k0 HB1 ⊢
  have s2 : V1.cell? ⟨V.heap.size, 2, none⟩ = some (.slice none 0 0) := cell_h (k := 2) k0 rfl
  have s3 : V1.cell? ⟨V.heap.size, 3, none⟩ = some (.slice none 0 0) := cell_h (k := 3) k0 rfl
  clear k0 HB
  go_wp2_with fail
  go_loopw [7, 15] (fun v7 v15 wr => v15 = .int .i64 0 ∧ wr = V1) (fun _ _ _ => 0)
  case atStart => exact ⟨rfl, rfl⟩
  case round =>
    obtain ⟨rfl, rfl⟩ := hrel
    go_wp2_with fail
    go_loopw [5, 9, 33] (fun v5 v9 v33 wr' => v5 = .slice none 0 0 ∧ v33 = .int .i64 0 ∧ wr' = wr) (fun _ _ _ _ => 0)
    case atStart => exact ⟨rfl, rfl, rfl⟩
    case round =>
      obtain ⟨rfl, rfl, rfl⟩ := hrel
      go_wp2_with fail
      go_ret
      exact ⟨rfl, HB1.out⟩

set_option maxRecDepth 100000 in
set_option maxHeartbeats 4000000 in
theorem ledger_of (w : World) (P : Option Addr) (hE : Emp w P) : Calls Tryz.prog 41 #[.pointer P] w fun e W => e = .returned (.string ⟨#[]⟩) ∧ Below w.heap.size w W := by
  have HK : Hid (∀ W, Emp W P → Calls Tryz.prog 63 #[.pointer P] W fun e w' => e = .returned (.agg #[.slice none 0 0, .slice none 0 0, .slice none 0 0, .slice none 0 0, .slice none 0 0, .int .u64 0]) ∧ Below W.heap.size W w') := fun W h => known_of W P h
  have hfl : ∀ W, (Instr.field 120 (.agg #[.slice none 0 0, .slice none 0 0, .slice none 0 0, .slice none 0 0, .slice none 0 0, .int .u64 0]) 4).run Tryz.prog W = .ok (.slice none 0 0) W := fun _ => by rfl
  have HE := Lib.hid hE
  clear hE
  go_enter Tryz.func41, Tryz.ntmps41
  go_upto_region 2 with fail
  have k0 := new_heap w (.cells #[.pointer none, .slice none 0 0] 137)
  have hB := (Below.refl w.heap.size w).alloc (Nat.le_refl _) (.cells #[.pointer none, .slice none 0 0] 137)
  generalize w.alloc (.cells #[.pointer none, .slice none 0 0] 137) = W at k0 hB ⊢
  have K0 := Lib.hid k0
  have HB0 := Lib.hid hB
  have HE0 := Lib.hid (HE.out.keep hB)
  clear k0 hB HE
  go_wp2_with fail
  refine (HK.out _ HE0.out).mono ?_
  rintro e V ⟨rfl, hB⟩
  have HB := Lib.hid (low_trans HB0.out hB)
  have K1 := Lib.hid ((hB.block _ (Array.getElem?_eq_some_iff.1 K0.out).1).trans K0.out)
  clear hB HK HE0 HB0 K0
  go_wp2_with fail
  go_loopw [5, 10] (fun v5 v10 wr => v10 = .int .i64 0 ∧ wr = V) (fun _ _ _ => 0)
  case atStart => exact ⟨rfl, rfl⟩
  case round =>
    obtain ⟨rfl, rfl⟩ := hrel
    go_wp2_with fail
    refine (bstr_nil _ _ K1.out).mono ?_
    rintro e V2 ⟨rfl, hB⟩
    have HB2 := Lib.hid (low_trans HB.out hB)
    clear hB HB K1
    go_wp2_with fail
    go_ret
    exact ⟨rfl, HB2.out⟩

set_option maxRecDepth 100000 in
set_option maxHeartbeats 4000000 in
theorem same_nn (w : World) : Calls Tryz.prog 43 #[.pointer none, .pointer none] w fun e W => e = .returned (.bool true) ∧ Below w.heap.size w W := by
  go_enter Tryz.func43, Tryz.ntmps43
  go_wp2_with fail
  exact bodyPost_ret (v := .bool true) (by simp [results, Tryz.f43, go_sem]) rfl ⟨rfl, Below.refl _ _⟩
set_option maxRecDepth 100000 in
set_option maxHeartbeats 4000000 in
theorem same_nb (w : World) (b : Nat) : Calls Tryz.prog 43 #[.pointer none, .pointer (some ⟨b, 0, none⟩)] w fun e W => e = .returned (.bool false) ∧ Below w.heap.size w W := by
  have hpe : ∀ W, (binOp .eql 68 (.pointer none) (.pointer (some ⟨b, 0, none⟩))).run Tryz.prog W = .ok (.bool false) W := fun _ => by rfl
  go_enter Tryz.func43, Tryz.ntmps43
  go_wp2_with fail
  exact bodyPost_ret (v := .bool false) (by simp [results, Tryz.f43, go_sem]) rfl ⟨rfl, Below.refl _ _⟩
set_option maxRecDepth 100000 in
set_option maxHeartbeats 4000000 in
theorem same_bn (w : World) (b : Nat) : Calls Tryz.prog 43 #[.pointer (some ⟨b, 0, none⟩), .pointer none] w fun e W => e = .returned (.bool false) ∧ Below w.heap.size w W := by
  have hpe : ∀ W, (binOp .eql 68 (.pointer (some ⟨b, 0, none⟩)) (.pointer none)).run Tryz.prog W = .ok (.bool false) W := fun _ => by rfl
  go_enter Tryz.func43, Tryz.ntmps43
  go_wp2_with fail
  exact bodyPost_ret (v := .bool false) (by simp [results, Tryz.f43, go_sem]) rfl ⟨rfl, Below.refl _ _⟩
set_option maxRecDepth 100000 in
set_option maxHeartbeats 4000000 in
theorem same_bb (w : World) (b c : Nat) (hb : BkE w b (.slice none 0 0)) (hc : BkE w c (.slice none 0 0)) : Calls Tryz.prog 43 #[.pointer (some ⟨b, 0, none⟩), .pointer (some ⟨c, 0, none⟩)] w fun e W => e = .returned (.bool true) ∧ Below w.heap.size w W := by
  have HQ : Hid (∀ W, Calls Tryz.prog 86 #[.slice none 0 0, .slice none 0 0] W fun e w' => e = .returned (.bool true) ∧ w' = W) := fun W => by
    go_enter Tryz.func86, Tryz.ntmps86
    go_wp2_with fail
    go_loopw [5, 13] (fun v5 v13 wr => v13 = .int .i64 0 ∧ wr = W) (fun _ _ _ => 0)
    case atStart => exact ⟨rfl, rfl⟩
    case round =>
      obtain ⟨rfl, rfl⟩ := hrel
      go_wp2_with fail
      go_ret
      exact ⟨rfl, rfl⟩
  have s4 : w.cell? ⟨b, 4, none⟩ = some (.slice none 0 0) := cell_h (k := 4) hb rfl
  have t4 : w.cell? ⟨c, 4, none⟩ = some (.slice none 0 0) := cell_h (k := 4) hc rfl
  have s4' : w.drew.cell? ⟨b, 4, none⟩ = some (.slice none 0 0) := s4
  have t4' : w.drew.cell? ⟨c, 4, none⟩ = some (.slice none 0 0) := t4
  clear hb hc
  go_enter Tryz.func43, Tryz.ntmps43
  go_upto_region 3 with fail
  go_quiet (first | (go_at_call 86; exact Calls.quiet_of_same (HQ.out _)))
  go_wp2_with fail
  exact bodyPost_ret (v := .bool true) (by simp [results, Tryz.f43, go_sem]) rfl ⟨rfl, below_drewN (Below.refl _ _) nq⟩

set_option maxRecDepth 100000 in
set_option maxHeartbeats 4000000 in
theorem reply_nil (w : World) (s : ByteArray) (hs : s.size < 4294967281) (hG : Gl w) : Calls Tryz.prog 99 #[.pointer none, .string s] w fun e W => e = .returned (.tuple #[.string ⟨#[]⟩, .int .i64 1]) ∧ Below w.heap.size w W := by
  have HS := Lib.hid (split_of w s _ _ hs rfl rfl hG)
  clear hG
  go_enter Tryz.func99, Tryz.ntmps99
  go_wp2_with fail
  refine HS.out.mono ?_
  rintro e V ⟨rfl, hV⟩
  have HB : Hid (Below w.heap.size w V) := by rw [hV]; exact (Below.refl _ _).alloc (Nat.le_refl _) _
  clear hV HS
  go_wp2_with fail
  refine bodyPost_ret (v := .tuple #[.string ⟨#[]⟩, .int .i64 1]) (by simp [results, Tryz.f99, go_sem]) rfl ⟨rfl, HB.out⟩

set_option maxRecDepth 100000 in
set_option maxHeartbeats 4000000 in
theorem answer_nil (w : World) (s : ByteArray) (hs : s.size < 4294967281) (hG : Gl w) : Calls Tryz.prog 35 #[.pointer none, .string s] w fun e W => e = .returned (.string ⟨#[101, 114, 114, 111, 114, 32, 49]⟩) ∧ Below w.heap.size w W := by
  have h1 : Calls Tryz.prog 77 #[.pointer none, .string s] w fun e W => e = .returned (.tuple #[.string ⟨#[101, 114, 114, 111, 114, 32, 49]⟩, .int .i64 1]) ∧ Below w.heap.size w W := by
    have HR := Lib.hid (reply_nil w s hs hG)
    have HE : Hid (∀ W, Calls Tryz.prog 100 #[.int .i64 1] W fun e w' => e = .returned (.string ⟨#[49]⟩) ∧ w' = W) := fun W => err_one W
    have hA : ∀ W', (Op.stringOp .add ⟨#[101, 114, 114, 111, 114, 32]⟩ ⟨#[49]⟩).run Tryz.prog W' = .ok (.string ⟨#[101, 114, 114, 111, 114, 32, 49]⟩) W' := fun W' => by rw [run_string_add_sum W' _ _ (by decide)]; congr 2
    clear hG
    go_enter Tryz.func77, Tryz.ntmps77
    go_wp2_with fail
    refine HR.out.mono ?_
    rintro e V ⟨rfl, hB⟩
    have HB := Lib.hid hB
    clear hB HR
    go_wp2_with fail
    refine (HE.out _).mono ?_
    rintro e w9 ⟨rfl, rfl⟩
    clear HE
    go_wp2_with fail
    refine bodyPost_ret (v := .tuple #[.string ⟨#[101, 114, 114, 111, 114, 32, 49]⟩, .int .i64 1]) (by simp [results, Tryz.f77, go_sem]) rfl ⟨rfl, HB.out⟩
  have H1 := Lib.hid h1
  clear h1 hG
  go_enter Tryz.func35, Tryz.ntmps35
  go_wp2_with fail
  refine H1.out.mono ?_
  rintro e V ⟨rfl, hB⟩
  have HB := Lib.hid hB
  clear hB H1
  go_wp2_with fail
  go_ret
  exact ⟨rfl, HB.out⟩
end Go.Proofs.YtmdniebedflpbaaGreatDoor
