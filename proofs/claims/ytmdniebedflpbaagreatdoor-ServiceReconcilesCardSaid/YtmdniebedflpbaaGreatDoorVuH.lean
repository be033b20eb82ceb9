/-
  WALKS: the line 'hand ann run': the command.
-/
import Derived.Test.YtmdniebedflpbaaGreatDoorVuG
import Derived.Test.YtmdniebedflpbaaGreatDoorPlU
import Derived.Deep.RegionHeld3
namespace Go.Proofs.YtmdniebedflpbaaGreatDoor
open Go.RowKit

set_option maxRecDepth 100000 in
set_option maxHeartbeats 4000000 in
theorem index_none (w : World) (s : ByteArray) : Calls Tryz.prog 134 #[.slice none 0 0, .string s] w fun e w' => e = .returned (.int .i64 (-1)) ∧ Below w.heap.size w w' := by
  have h1 : ∀ W g, Calls Tryz.prog 158 #[.slice none 0 0, g] W fun e w' => e = .returned (.int .i64 (-1)) ∧ w' = W := fun W g => by
    go_enter Tryz.func158, Tryz.ntmps158
    go_wp2_with fail
    refine wp_loop_rounds 1 ?_
    rw [rounds_succ]
    go_wp2_with fail
    go_ret
    exact ⟨rfl, rfl⟩
  have H1 := Lib.hid h1
  clear h1
  go_enter Tryz.func134, Tryz.ntmps134
  go_wp2_with fail
  refine (H1.out _ _).mono ?_
  rintro e V ⟨rfl, rfl⟩
  go_wp2_with fail
  go_ret
  exact ⟨rfl, (Below.refl _ _).alloc (Nat.le_refl _) _⟩

/-- A book that is new, or has a hand. -/
def BkE (w : World) (b : Nat) (v : Value) : Prop := w.heap[b]? = some (.cells #[v, .slice none 0 0, .slice none 0 0, .slice none 0 0, .slice none 0 0, .int .u64 0] 120 (0, 0))
theorem BkE.keep {w w' : World} {b : Nat} {v : Value} (h : BkE w b v) (hb : Below w.heap.size w w') : BkE w' b v := (hb.block _ (Array.getElem?_eq_some_iff.1 h).1).trans h

theorem exec_append {P : Program} {o : Oper} {a : Act} {W W' : World} {v u v' : Value} (s x : Operand) (t : TypeId) (ho : o.op = .call { callee := .builtin .append, args := #[s, x], argTypes := #[t, t] }) (hs : a.eval s = v) (hx : a.eval x = u)
    (hr : (Builtin.append_ #[t, t] o.type #[v, u]).run P W = .ok v' W') : (execOp a.eval o).run P W = .ok (.value v') W' := by
  unfold execOp
  simp only [ho, resolve, invoke, builtin, Sem.run_bind, Sem.run_pure, Result.andThen_ok, List.map_toArray, List.map_cons, List.map_nil, hs, hx, hr]
theorem x_worker : (Tryz.prog.info? 156).map (fun i => (i.zero, i.size, i.bytes)) = some (some (.agg #[.string ByteArray.empty, .int .i64 0, .chan none]), 3, 32) := by kernel_rfl
theorem cells_3 (W : World) (a b c : Value) (t : TypeId) : ∀ (j : Nat) (u : Value), [a, b, c][j]? = some u → (W.alloc (.cells #[a, b, c] t)).cell? ((⟨W.heap.size, 0, none⟩ : Addr).add j) = some u := by
  intro j u h
  have e : (⟨W.heap.size, 0, none⟩ : Addr).add j = ⟨W.heap.size, j, none⟩ := by
    by_cases e : j = 0
    · subst e; simp [Addr.add]
    · simp [Addr.add, e]
  rw [e]
  exact cell_h (new_heap W _) (by simpa using h)
set_option maxRecDepth 100000 in
set_option maxHeartbeats 8000000 in
theorem hire_of (w : World) (b B : Nat) (hb : BkE w b (.slice none 0 0)) (hW : Wd w B) (hG : Gl w) :
    Calls Tryz.prog 101 #[.pointer (some ⟨b, 0, none⟩), .slice (some ⟨B, 0, none⟩) 3 3] w fun e w' => e = .returned (.tuple #[]) ∧ (∃ v, BkE w' b v) ∧ BelowX w.heap.size b w w' := by
  have HF := Lib.hid (form_hand w B hW hG)
  have HN : Hid (∀ W x, Calls Tryz.prog 79 #[.bool true, .int .i64 x] W fun e w' => e = .returned (.tuple #[]) ∧ w' = W) := fun W x => need_yes W x
  have HW := Lib.hid hW
  have HG := Lib.hid hG
  have HK := Lib.hid hb
  clear hb hW hG
  go_enter Tryz.func101, Tryz.ntmps101
  go_wp2_with fail
  refine HF.out.mono ?_
  rintro e V ⟨rfl, hB⟩
  have HB := Lib.hid hB
  have HW1 := Lib.hid (HW.out.keep hB)
  have HG1 := Lib.hid (HG.out.keep hB)
  have HK1 := Lib.hid (HK.out.keep hB)
  clear hB HW HG HK HF
  go_wp2_with fail
  refine (HN.out _ _).mono ?_
  rintro e w9 ⟨rfl, rfl⟩
  have b0 := cell_h (k := 0) HK1.out rfl
  have c1 := HW1.out.c1
  have HI : Hid (∀ W s, Calls Tryz.prog 134 #[.slice none 0 0, .string s] W fun e w' => e = .returned (.int .i64 (-1)) ∧ Below W.heap.size W w') := fun W s => index_none W s
  have c2 := HW1.out.c2
  go_upto_region 1 with fail
  have b0' : w9.drew.cell? ⟨b, 0, none⟩ = some (.slice none 0 0) := b0
  have c1' : w9.drew.cell? ⟨B, 1, none⟩ = some (.string ⟨#[97, 110, 110]⟩) := c1
  have HD9 : Hid (Below w9.heap.size w9 w9.drew) := (Below.refl _ _).drew
  go_region_held3 (fun W' => W'.cell? ⟨b, 0, none⟩ = some (.slice none 0 0) ∧ W'.cell? ⟨B, 1, none⟩ = some (.string ⟨#[97, 110, 110]⟩)) (first | (with_reducible assumption) | go_keep) ((first | (go_at_call 79; refine (HN.out _ _).mono ?_; rintro e V3 ⟨rfl, rfl⟩) | (go_at_call 134; refine (HI.out _ _).mono ?_; rintro e V2 ⟨rfl, hB2⟩; have b2 : V2.cell? ⟨b, 0, none⟩ = some (.slice none 0 0) := (hB2.cell (p := ⟨b, 0, none⟩) (World.block_lt_of_cell? _ _ b0')).trans b0'; have d1 : V2.cell? ⟨B, 1, none⟩ = some (.string ⟨#[97, 110, 110]⟩) := (hB2.cell (p := ⟨B, 1, none⟩) (World.block_lt_of_cell? _ _ c1')).trans c1')))
  have hq3 := low_trans HD9.out hB2
  have HB3 := Lib.hid (low_trans HB.out hq3)
  have HW3 := Lib.hid (HW1.out.keep hq3)
  have HG3 := Lib.hid (HG1.out.keep hq3)
  have HK3 := Lib.hid (HK1.out.keep hq3)
  clear hq3 hB2 b2 d1 HB HW1 HG1 HK1 HD9 b0 b0' c1 c1' c2 HI
  have b0 := cell_h (k := 0) HK3.out rfl
  go_wp2_with fail
  refine (HN.out _ _).mono ?_
  rintro e w8 ⟨rfl, rfl⟩
  clear HN b0
  go_upto_region 3 with fail
  have hF1 : ∀ f, Fence.wide.fn f := fun _ => trivial
  have HKS : Hid (∀ V, Below w8.heap.size w8 V → V.cell? ⟨b, 0, none⟩ = some (.slice none 0 0) ∧ V.cell? ⟨B, 1, none⟩ = some (.string ⟨#[97, 110, 110]⟩) ∧ V.cell? ⟨B, 2, none⟩ = some (.string ⟨#[114, 117, 110]⟩)) := fun V hV => ⟨cell_h (k := 0) (HK3.out.keep hV) rfl, (HW3.out.keep hV).c1, (HW3.out.keep hV).c2⟩
  have HR : Hid (∀ V, Below w8.heap.size w8 V → Calls Tryz.prog 135 #[.string ⟨#[114, 117, 110]⟩] V fun e w' => e = .returned (.int .i64 0) ∧ w' = V) := fun V hV => role_run V (HG3.out.keep hV)
  have mk0 : ∀ W, (Instr.makeChan 123 (.int .i64 0)).run Tryz.prog W = .ok (.chan (some W.heap.size)) (W.alloc (.chan 0 #[] false 0 0 false)) := fun _ => by rfl
  refine (wpIn_wide (n := 5)).1 ?_
  refine wpIn_region_T 19 (fun W2 : World => W2.cell? ⟨b, 0, none⟩ = some (.slice none 0 0) ∧ W2.cell? ⟨B, 1, none⟩ = some (.string ⟨#[97, 110, 110]⟩) ∧ W2.cell? ⟨B, 2, none⟩ = some (.string ⟨#[114, 117, 110]⟩)) (by kernel_rfl) ?_
  change anyT _ _ _ _ _ _ _ _ 20 (Array.replicate 20 false) _ _
  have hqd : Below w8.heap.size w8 w8.drew := (Below.refl _ _).drew
  generalize w8.drew = Wd at *
  have hS0 := HKS.out Wd hqd
  refine anyT_takeD hF1 0 24 (v := ?_) rfl rfl (by kernel_rfl) (by kernel_rfl) (by kernel_rfl) (by kernel_rfl) (by kernel_rfl) (fun _ _ _ h => h) hS0 rfl ?_ ?_
  rotate_left
  · intro W2 hSw; obtain ⟨r0, r1, r2⟩ := hSw; go_simp; try with_reducible rfl
  simp only [List.setIfInBounds_toArray, List.set_cons_zero, List.set_cons_succ]
  refine anyT_takeD hF1 1 25 (v := ?_) rfl rfl (by kernel_rfl) (by kernel_rfl) (by kernel_rfl) (by kernel_rfl) (by kernel_rfl) (fun _ _ _ h => h) hS0 rfl ?_ ?_
  rotate_left
  · intro W2 hSw; obtain ⟨r0, r1, r2⟩ := hSw; go_simp; try with_reducible rfl
  simp only [List.setIfInBounds_toArray, List.set_cons_zero, List.set_cons_succ]
  refine anyT_takeD hF1 2 26 (v := ?_) rfl rfl (by kernel_rfl) (by kernel_rfl) (by kernel_rfl) (by kernel_rfl) (by kernel_rfl) (fun _ _ _ h => h) hS0 rfl ?_ ?_
  rotate_left
  · intro W2 hSw; obtain ⟨r0, r1, r2⟩ := hSw; go_simp; try with_reducible rfl
  simp only [List.setIfInBounds_toArray, List.set_cons_zero, List.set_cons_succ]
  refine anyT_takeD hF1 3 27 (v := ?_) rfl rfl (by kernel_rfl) (by kernel_rfl) (by kernel_rfl) (by kernel_rfl) (by kernel_rfl) (fun _ _ _ h => h) hS0 rfl ?_ ?_
  rotate_left
  · intro W2 hSw; obtain ⟨r0, r1, r2⟩ := hSw; go_simp; try with_reducible rfl
  simp only [List.setIfInBounds_toArray, List.set_cons_zero, List.set_cons_succ]
  refine anyT_takeD hF1 4 28 (v := ?_) rfl rfl (by kernel_rfl) (by kernel_rfl) (by kernel_rfl) (by kernel_rfl) (by kernel_rfl) (fun _ _ _ h => h) hS0 rfl ?_ ?_
  rotate_left
  · intro W2 hSw; obtain ⟨r0, r1, r2⟩ := hSw; go_simp; try with_reducible rfl
  simp only [List.setIfInBounds_toArray, List.set_cons_zero, List.set_cons_succ]
  refine anyT_takeD hF1 5 29 (v := ?_) rfl rfl (by kernel_rfl) (by kernel_rfl) (by kernel_rfl) (by kernel_rfl) (by kernel_rfl) (fun _ _ _ h => h) hS0 rfl ?_ ?_
  rotate_left
  · intro W2 hSw; obtain ⟨r0, r1, r2⟩ := hSw; go_simp; try with_reducible rfl
  simp only [List.setIfInBounds_toArray, List.set_cons_zero, List.set_cons_succ]
  refine anyT_takeD hF1 6 30 (v := ?_) rfl rfl (by kernel_rfl) (by kernel_rfl) (by kernel_rfl) (by kernel_rfl) (by kernel_rfl) (fun _ _ _ h => h) hS0 rfl ?_ ?_
  rotate_left
  · intro W2 hSw; obtain ⟨r0, r1, r2⟩ := hSw; go_simp; try with_reducible rfl
  simp only [List.setIfInBounds_toArray, List.set_cons_zero, List.set_cons_succ]
  refine anyT_takeD hF1 7 31 (v := ?_) rfl rfl (by kernel_rfl) (by kernel_rfl) (by kernel_rfl) (by kernel_rfl) (by kernel_rfl) (fun _ _ _ h => h) hS0 rfl ?_ ?_
  rotate_left
  · intro W2 hSw; obtain ⟨r0, r1, r2⟩ := hSw; go_simp; try with_reducible rfl
  simp only [List.setIfInBounds_toArray, List.set_cons_zero, List.set_cons_succ]
  refine anyT_takeD hF1 8 32 (v := ?_) rfl rfl (by kernel_rfl) (by kernel_rfl) (by kernel_rfl) (by kernel_rfl) (by kernel_rfl) (fun _ _ _ h => h) hS0 rfl ?_ ?_
  rotate_left
  · intro W2 hSw; obtain ⟨r0, r1, r2⟩ := hSw; go_simp; try with_reducible rfl
  simp only [List.setIfInBounds_toArray, List.set_cons_zero, List.set_cons_succ]
  refine anyT_takeD hF1 9 33 (v := ?_) rfl rfl (by kernel_rfl) (by kernel_rfl) (by kernel_rfl) (by kernel_rfl) (by kernel_rfl) (fun _ _ _ h => h) hS0 rfl ?_ ?_
  rotate_left
  · intro W2 hSw; obtain ⟨r0, r1, r2⟩ := hSw; go_simp; try with_reducible rfl
  simp only [List.setIfInBounds_toArray, List.set_cons_zero, List.set_cons_succ]
  refine anyT_takeD hF1 10 34 (v := ?_) rfl rfl (by kernel_rfl) (by kernel_rfl) (by kernel_rfl) (by kernel_rfl) (by kernel_rfl) (fun _ _ _ h => h) hS0 rfl ?_ ?_
  rotate_left
  · intro W2 hSw; obtain ⟨r0, r1, r2⟩ := hSw; go_simp; try with_reducible rfl
  simp only [List.setIfInBounds_toArray, List.set_cons_zero, List.set_cons_succ]
  refine anyT_l [11, 13] (by kernel_rfl) (by decide) ⟨?_, ?_, trivial⟩
  · skip
    refine opT_call hF1 (fun h => absurd h (by decide)) 11 35 (w := Wd) rfl rfl (by kernel_rfl) (by rfl) (by go_simp; try with_reducible rfl; try decide) (callsIn_wide.2 (HR.out _ hqd)) ?_
    rintro e9 V9 ⟨rfl, hsame⟩
    subst V9
    refine ⟨_, rfl, hS0, ?_⟩
    simp only [List.setIfInBounds_toArray, List.set_cons_zero, List.set_cons_succ]
    refine anyT_takeD hF1 12 36 (v := ?_) rfl rfl (by kernel_rfl) (by kernel_rfl) (by kernel_rfl) (by kernel_rfl) (by kernel_rfl) (fun _ _ _ h => h) hS0 rfl ?_ ?_
    rotate_left
    · intro W2 hSw; obtain ⟨r0, r1, r2⟩ := hSw; go_simp; try with_reducible rfl
    simp only [List.setIfInBounds_toArray, List.set_cons_zero, List.set_cons_succ]
    refine anyT_l [13] (by kernel_rfl) (by decide) ⟨?_, trivial⟩
    have hba := (Below.refl Wd.heap.size Wd).alloc (Nat.le_refl _) (.chan 0 #[] false 0 0 false)
    refine opT_val hF1 13 37 (w2 := Wd.alloc (.chan 0 #[] false 0 0 false)) (v := .chan (some Wd.heap.size)) rfl rfl (by kernel_rfl) rfl (by go_simp; try with_reducible rfl) (HKS.out _ (low_trans hqd hba)) ?_
    simp only [List.setIfInBounds_toArray, List.set_cons_zero, List.set_cons_succ]
    replace hqd := low_trans hqd hba
    replace hS0 := HKS.out _ hqd
    clear hba
    generalize Wd.heap.size = cd at *
    generalize Wd.alloc (.chan 0 #[] false 0 0 false) = C at *
    refine anyT_takeD hF1 14 38 (v := ?_) rfl rfl (by kernel_rfl) (by kernel_rfl) (by kernel_rfl) (by kernel_rfl) (by kernel_rfl) (fun _ _ _ h => h) hS0 rfl ?_ ?_
    rotate_left
    · intro W2 hSw; obtain ⟨r0, r1, r2⟩ := hSw; go_simp; try with_reducible rfl
    simp only [List.setIfInBounds_toArray, List.set_cons_zero, List.set_cons_succ]
    obtain ⟨i0, hi0, hz0, hz1, hz2⟩ := info_parts x_worker
    have hbb := (Below.refl C.heap.size C).alloc (Nat.le_refl _) (.cells #[.string ⟨#[97, 110, 110]⟩, .int .i64 0, .chan (some cd)] 156)
    have hc3 := cells_3 C (.string ⟨#[97, 110, 110]⟩) (.int .i64 0) (.chan (some cd)) 156
    have hsz3 := World.size_alloc C (.cells #[.string ⟨#[97, 110, 110]⟩, .int .i64 0, .chan (some cd)] 156)
    refine anyT_l [15] (by kernel_rfl) (by decide) ⟨?_, trivial⟩
    refine opT_val hF1 15 39 (w2 := C.alloc (.cells #[.string ⟨#[97, 110, 110]⟩, .int .i64 0, .chan (some cd)] 156)) (v := .slice (some ⟨C.heap.size, 0, none⟩) 1 1) rfl rfl (by kernel_rfl) rfl (by go_simp; try with_reducible rfl) (HKS.out _ (low_trans hqd hbb)) ?_
    simp only [List.setIfInBounds_toArray, List.set_cons_zero, List.set_cons_succ]
    replace hqd := low_trans hqd hbb
    replace hS0 := HKS.out _ hqd
    generalize C.alloc (.cells #[.string ⟨#[97, 110, 110]⟩, .int .i64 0, .chan (some cd)] 156) = D at *
    obtain ⟨v', w', hr, hown, hgrow, hnil⟩ := run_append_own (P := Tryz.prog) D D.heap.size 117 117 156 i0 _ 3 32 Tryz.underlying117 hi0 hz0 hz1 hz2 rfl (by decide) (.slice none 0 0) 0 [] (World.ownsRow_nil _ _ _ _) ⟨C.heap.size, 0, none⟩ 1 1 [.string ⟨#[97, 110, 110]⟩, .int .i64 0, .chan (some cd)] rfl hc3 (by simp [Value.oneCell']) (by decide) (by decide) (Nat.le_refl _)
    have hgr : Below D.heap.size D w' := (Below.refl _ _).grown hgrow (Nat.le_refl _) (fun j hj => by cases hj)
    obtain ⟨g1, cap1, rfl⟩ := ownsRow_succ hown
    refine anyT_l [16] (by kernel_rfl) (by decide) ⟨?_, trivial⟩
    refine opT_val hF1 16 40 (w2 := w') (v := .slice (some ⟨g1, 0, none⟩) (0 + 1) cap1) rfl rfl (by kernel_rfl) rfl (exec_append (.tmp 28) (.tmp 39) 117 rfl rfl rfl hr) (HKS.out _ (low_trans hqd hgr)) ?_
    simp only [List.setIfInBounds_toArray, List.set_cons_zero, List.set_cons_succ]
    replace hqd := low_trans hqd hgr
    replace hS0 := HKS.out _ hqd
    refine anyT_l [17] (by kernel_rfl) (by decide) ⟨?_, trivial⟩
    refine opT_val hF1 17 41 (w2 := w') (v := .pointer (some ⟨b, 0, none⟩)) rfl rfl (by kernel_rfl) rfl (by go_simp; try with_reducible rfl) hS0 ?_
    simp only [List.setIfInBounds_toArray, List.set_cons_zero, List.set_cons_succ]
    refine anyT_l [18] (by kernel_rfl) (by decide) ⟨?_, trivial⟩
    refine opT_val hF1 18 42 (w2 := w') (v := .pointer (some ⟨b, 0, none⟩)) rfl rfl (by kernel_rfl) rfl (by go_simp; try with_reducible rfl) hS0 ?_
    simp only [List.setIfInBounds_toArray, List.set_cons_zero, List.set_cons_succ]
    have hbk := HK3.out.keep hqd
    have b0 := cell_h (k := 0) hbk rfl
    have bf := fz_h hbk 0
    refine anyT_skipN hF1 (w2 := w'.setCell ⟨b, 0, none⟩ (.slice (some ⟨g1, 0, none⟩) (0 + 1) cap1)) rfl rfl (by kernel_rfl) (by kernel_rfl) rfl (by go_simp; try with_reducible rfl) ?_
    refine anyT_done (by kernel_rfl) ?_ _
    have hset := heap_set (k := 0) hbk (.slice (some ⟨g1, 0, none⟩) (0 + 1) cap1)
    have hX : BelowX w.heap.size b w (w'.setCell ⟨b, 0, none⟩ (.slice (some ⟨g1, 0, none⟩) (0 + 1) cap1)) := (BelowX.of (low_trans HB3.out hqd)).trans (BelowX.set _ _ _ _ _)
    generalize w'.setCell ⟨b, 0, none⟩ (.slice (some ⟨g1, 0, none⟩) (0 + 1) cap1) = Z at *
    have HX := Lib.hid hX
    have HZ := Lib.hid hset
    clear hX hset hbk b0 bf
    go_wp2_with fail
    first | go_end0 | refine bodyPost_ret (results_none rfl _ _ _) rfl ?_
    exact ⟨rfl, ⟨_, HZ.out⟩, HX.out⟩
  · skip
    have hba := (Below.refl Wd.heap.size Wd).alloc (Nat.le_refl _) (.chan 0 #[] false 0 0 false)
    refine opT_val hF1 13 37 (w2 := Wd.alloc (.chan 0 #[] false 0 0 false)) (v := .chan (some Wd.heap.size)) rfl rfl (by kernel_rfl) rfl (by go_simp; try with_reducible rfl) (HKS.out _ (low_trans hqd hba)) ?_
    simp only [List.setIfInBounds_toArray, List.set_cons_zero, List.set_cons_succ]
    replace hqd := low_trans hqd hba
    replace hS0 := HKS.out _ hqd
    clear hba
    generalize Wd.heap.size = cd at *
    generalize Wd.alloc (.chan 0 #[] false 0 0 false) = C at *
    refine anyT_l [11] (by kernel_rfl) (by decide) ⟨?_, trivial⟩
    refine opT_call hF1 (fun h => absurd h (by decide)) 11 35 (w := C) rfl rfl (by kernel_rfl) (by rfl) (by go_simp; try with_reducible rfl; try decide) (callsIn_wide.2 (HR.out _ hqd)) ?_
    rintro e9 V9 ⟨rfl, hsame⟩
    subst V9
    refine ⟨_, rfl, hS0, ?_⟩
    simp only [List.setIfInBounds_toArray, List.set_cons_zero, List.set_cons_succ]
    refine anyT_takeD hF1 12 36 (v := ?_) rfl rfl (by kernel_rfl) (by kernel_rfl) (by kernel_rfl) (by kernel_rfl) (by kernel_rfl) (fun _ _ _ h => h) hS0 rfl ?_ ?_
    rotate_left
    · intro W2 hSw; obtain ⟨r0, r1, r2⟩ := hSw; go_simp; try with_reducible rfl
    simp only [List.setIfInBounds_toArray, List.set_cons_zero, List.set_cons_succ]
    refine anyT_takeD hF1 14 38 (v := ?_) rfl rfl (by kernel_rfl) (by kernel_rfl) (by kernel_rfl) (by kernel_rfl) (by kernel_rfl) (fun _ _ _ h => h) hS0 rfl ?_ ?_
    rotate_left
    · intro W2 hSw; obtain ⟨r0, r1, r2⟩ := hSw; go_simp; try with_reducible rfl
    simp only [List.setIfInBounds_toArray, List.set_cons_zero, List.set_cons_succ]
    obtain ⟨i0, hi0, hz0, hz1, hz2⟩ := info_parts x_worker
    have hbb := (Below.refl C.heap.size C).alloc (Nat.le_refl _) (.cells #[.string ⟨#[97, 110, 110]⟩, .int .i64 0, .chan (some cd)] 156)
    have hc3 := cells_3 C (.string ⟨#[97, 110, 110]⟩) (.int .i64 0) (.chan (some cd)) 156
    have hsz3 := World.size_alloc C (.cells #[.string ⟨#[97, 110, 110]⟩, .int .i64 0, .chan (some cd)] 156)
    refine anyT_l [15] (by kernel_rfl) (by decide) ⟨?_, trivial⟩
    refine opT_val hF1 15 39 (w2 := C.alloc (.cells #[.string ⟨#[97, 110, 110]⟩, .int .i64 0, .chan (some cd)] 156)) (v := .slice (some ⟨C.heap.size, 0, none⟩) 1 1) rfl rfl (by kernel_rfl) rfl (by go_simp; try with_reducible rfl) (HKS.out _ (low_trans hqd hbb)) ?_
    simp only [List.setIfInBounds_toArray, List.set_cons_zero, List.set_cons_succ]
    replace hqd := low_trans hqd hbb
    replace hS0 := HKS.out _ hqd
    generalize C.alloc (.cells #[.string ⟨#[97, 110, 110]⟩, .int .i64 0, .chan (some cd)] 156) = D at *
    obtain ⟨v', w', hr, hown, hgrow, hnil⟩ := run_append_own (P := Tryz.prog) D D.heap.size 117 117 156 i0 _ 3 32 Tryz.underlying117 hi0 hz0 hz1 hz2 rfl (by decide) (.slice none 0 0) 0 [] (World.ownsRow_nil _ _ _ _) ⟨C.heap.size, 0, none⟩ 1 1 [.string ⟨#[97, 110, 110]⟩, .int .i64 0, .chan (some cd)] rfl hc3 (by simp [Value.oneCell']) (by decide) (by decide) (Nat.le_refl _)
    have hgr : Below D.heap.size D w' := (Below.refl _ _).grown hgrow (Nat.le_refl _) (fun j hj => by cases hj)
    obtain ⟨g1, cap1, rfl⟩ := ownsRow_succ hown
    refine anyT_l [16] (by kernel_rfl) (by decide) ⟨?_, trivial⟩
    refine opT_val hF1 16 40 (w2 := w') (v := .slice (some ⟨g1, 0, none⟩) (0 + 1) cap1) rfl rfl (by kernel_rfl) rfl (exec_append (.tmp 28) (.tmp 39) 117 rfl rfl rfl hr) (HKS.out _ (low_trans hqd hgr)) ?_
    simp only [List.setIfInBounds_toArray, List.set_cons_zero, List.set_cons_succ]
    replace hqd := low_trans hqd hgr
    replace hS0 := HKS.out _ hqd
    refine anyT_l [17] (by kernel_rfl) (by decide) ⟨?_, trivial⟩
    refine opT_val hF1 17 41 (w2 := w') (v := .pointer (some ⟨b, 0, none⟩)) rfl rfl (by kernel_rfl) rfl (by go_simp; try with_reducible rfl) hS0 ?_
    simp only [List.setIfInBounds_toArray, List.set_cons_zero, List.set_cons_succ]
    refine anyT_l [18] (by kernel_rfl) (by decide) ⟨?_, trivial⟩
    refine opT_val hF1 18 42 (w2 := w') (v := .pointer (some ⟨b, 0, none⟩)) rfl rfl (by kernel_rfl) rfl (by go_simp; try with_reducible rfl) hS0 ?_
    simp only [List.setIfInBounds_toArray, List.set_cons_zero, List.set_cons_succ]
    have hbk := HK3.out.keep hqd
    have b0 := cell_h (k := 0) hbk rfl
    have bf := fz_h hbk 0
    refine anyT_skipN hF1 (w2 := w'.setCell ⟨b, 0, none⟩ (.slice (some ⟨g1, 0, none⟩) (0 + 1) cap1)) rfl rfl (by kernel_rfl) (by kernel_rfl) rfl (by go_simp; try with_reducible rfl) ?_
    refine anyT_done (by kernel_rfl) ?_ _
    have hset := heap_set (k := 0) hbk (.slice (some ⟨g1, 0, none⟩) (0 + 1) cap1)
    have hX : BelowX w.heap.size b w (w'.setCell ⟨b, 0, none⟩ (.slice (some ⟨g1, 0, none⟩) (0 + 1) cap1)) := (BelowX.of (low_trans HB3.out hqd)).trans (BelowX.set _ _ _ _ _)
    generalize w'.setCell ⟨b, 0, none⟩ (.slice (some ⟨g1, 0, none⟩) (0 + 1) cap1) = Z at *
    have HX := Lib.hid hX
    have HZ := Lib.hid hset
    clear hX hset hbk b0 bf
    go_wp2_with fail
    first | go_end0 | refine bodyPost_ret (results_none rfl _ _ _) rfl ?_
    exact ⟨rfl, ⟨_, HZ.out⟩, HX.out⟩
end Go.Proofs.YtmdniebedflpbaaGreatDoor
