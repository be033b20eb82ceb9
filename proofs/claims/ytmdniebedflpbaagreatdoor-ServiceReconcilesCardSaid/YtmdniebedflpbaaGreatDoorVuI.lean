/-
  WALKS: the line 'hand ann run': the ledger.
-/
import Derived.Test.YtmdniebedflpbaaGreatDoorVuH
import Derived.RangeFuncBox
namespace Go.Proofs.YtmdniebedflpbaaGreatDoor
open Go.RowKit

theorem cell_1s (w : World) (v : Value) (t : TypeId) : ∀ j u, [v][j]? = some u → (w.alloc (.cells #[v] t)).cell? ((⟨w.heap.size, 0, none⟩ : Addr).add j) = some u := by
  intro j u h
  have e : j = 0 := by
    cases j with
    | zero => rfl
    | succ j => simp at h
  subst e
  simp only [List.getElem?_cons_zero] at h
  rw [← h]
  exact cell_h (new_heap w (.cells #[v] t)) rfl
theorem x_str : (Tryz.prog.info? 9).map (fun i => (i.zero, i.size, i.bytes)) = some (some (.string ByteArray.empty), 1, 16) := by kernel_rfl
set_option maxRecDepth 100000 in
set_option maxHeartbeats 8000000 in
theorem enter_of (w : World) (b : Nat) (v : Value) (s : ByteArray) (hb : BkE w b v) (hs : s.size ≤ 1000) (hG : Gl w) :
    Calls Tryz.prog 81 #[.pointer (some ⟨b, 0, none⟩), .string s] w fun e w' => e = .returned (.tuple #[]) ∧ BelowX w.heap.size b w w' := by
  have HN := Lib.hid (next_of w b none 0 0 0 s (by decide) hs (by decide) (cell_h (k := 4) hb rfl) (cell_h (k := 5) hb rfl) hG)
  have HK := Lib.hid hb
  obtain ⟨i0, hi0, hz0, hz1, hz2⟩ := info_parts x_str
  clear hb hG
  go_enter Tryz.func81, Tryz.ntmps81
  go_wp2_with fail
  refine HN.out.mono ?_
  rintro e V ⟨rfl, hB⟩
  have hk := HK.out.keep hB
  have k4 := cell_h (k := 4) hk rfl
  have k5 := cell_h (k := 5) hk rfl
  have kf := fz_h hk
  have HB := Lib.hid hB
  have hlt := (Array.getElem?_eq_some_iff.1 hk).1
  have HK1 := Lib.hid hk
  obtain ⟨x1, e1⟩ : ∃ x, lineB (0 + 1) 0 s = x := ⟨_, rfl⟩
  obtain ⟨x2, e2⟩ : ∃ x, sumB (0 + 1) 0 s = x := ⟨_, rfl⟩
  rw [e1, e2]
  have hO := World.ownsRow_nil V V.heap.size 9 1
  clear hB hk HN HK e1 e2
  go_wp2_with (at_builtin; refine wpList_append_own _ rfl _ _ 69 rfl V.heap.size 9 i0 (.string ByteArray.empty) 1 16 Tryz.underlying69 hi0 hz0 hz1 hz2 rfl (by decide) _ 0 _ rfl (hO.alloc _) ⟨V.heap.size, 0, none⟩ 1 1 [.string x1] rfl rfl (cell_1s _ _ _) (by simp [Value.oneCell']) (by unfold maxLen; omega) (by omega) (by simp) ?_; intro v1 W1 hown1 hgrow1 hnil1; clear hnil1; have hb1 : Below V.heap.size V W1 := ((Below.refl _ V).alloc (Nat.le_refl _) _).grown hgrow1 (by simp) (fun j hj => by cases hj); have hk1 := (hb1.block _ hlt).trans HK1.out; have k4' := cell_h (k := 4) hk1 rfl; have k5' := cell_h (k := 5) hk1 rfl; have kf' := fz_h hk1; obtain ⟨g1, cap1, rfl⟩ := ownsRow_succ hown1; have HB1 := Lib.hid (low_trans HB.out hb1); clear hown1 hgrow1 hb1 hk1 k4 k5 kf)
  first | go_end0 | refine bodyPost_ret (results_none rfl _ _ _) rfl ?_
  exact ⟨rfl, ((BelowX.of HB1.out).trans (BelowX.set _ _ _ _ _)).trans (BelowX.set _ _ _ _ _)⟩
end Go.Proofs.YtmdniebedflpbaaGreatDoor
