/-
  WALKS: the reference's number and value.
-/
import Derived.Test.YtmdniebedflpbaaGreatDoorVpD
namespace Go.Proofs.YtmdniebedflpbaaGreatDoor
open Go.RowKit

set_option maxRecDepth 100000 in
set_option maxHeartbeats 8000000 in
theorem number_of (w W : World) (B : Nat) (v : Value) (L : List Nat) (x k : Nat) (hBw : B ≤ w.heap.size) (hO : W.ownsRow B 5 1 v L.length (u8l L)) (hlow : Below B w W) (hx : x < 18446744073709551616) (hk : k ≤ 8) (hL : L.length ≤ 100) :
    Calls Tryz.prog 52 #[v, .int .u64 (x : Int), .int .i64 (k : Int)] W fun e W' => ∃ v', e = .returned v' ∧ W'.ownsRow B 5 1 v' (L ++ leN x k).length (u8l (L ++ leN x k)) ∧ Below B w W' := by
  have H0 := Lib.hid hO
  have HL0 := Lib.hid hlow
  clear hO hlow
  obtain ⟨i0, hi0, hz0, hz1, hz2⟩ := info_parts x_u8
  go_enter Tryz.func52, Tryz.ntmps52
  go_wp2_with fail
  go_loopw [0, 1, 7] (fun vs vx vi wr => ∃ j : Nat, j ≤ k ∧ vx = .int .u64 ((x / 256 ^ j : Nat) : Int) ∧ vi = .int .i64 (j : Int) ∧ Hid (wr.ownsRow B 5 1 vs (L ++ leN x j).length (u8l (L ++ leN x j))) ∧ Hid (Below B w wr)) (fun _ _ vi _ => k - (intOf vi).toNat)
  case atStart => exact ⟨0, by omega, by simp, rfl, Lib.hid (by simpa [leN] using H0.out), HL0⟩
  case round =>
    obtain ⟨j, hj, rfl, rfl, H, HL⟩ := hrel
    by_cases hlt : j < k
    · have hkn : (j : Int) < (k : Int) := by omega
      obtain ⟨y, hy⟩ : ∃ y, x / 256 ^ j = y := ⟨_, rfl⟩
      have hnx : x / 256 ^ (j + 1) = y / 256 := by rw [Nat.pow_succ, ← Nat.div_div_eq_div_mul, hy]
      have hsn : L ++ leN x (j + 1) = L ++ leN x j ++ [y % 256] := by rw [leN_snoc, hy, List.append_assoc]
      have hyx : y < 18446744073709551616 := by rw [← hy]; exact Nat.lt_of_le_of_lt (Nat.div_le_self _ _) hx
      rw [hy]
      obtain ⟨n, hn⟩ : ∃ n, (L ++ leN x j).length = n := ⟨_, rfl⟩
      have hn2 : n ≤ 108 := by rw [← hn, List.length_append, leN_len]; omega
      obtain ⟨M, hM⟩ : ∃ M, L ++ leN x j = M := ⟨_, rfl⟩
      rw [hM] at H hsn hn
      rw [hn] at H
      have HS := Lib.hid hsn
      have HX := Lib.hid hnx
      have h47 := H.out.1
      have e1 : IntKind.u8.wrap (((y % 256 : Nat) : Int)) = ((y % 256 : Nat) : Int) := by rw [IntKind.wrap_u8]; omega
      have e2 : IntKind.u64.wrap ((y : Int).tmod 256) = ((y % 256 : Nat) : Int) := by rw [Int.tmod_eq_emod_of_nonneg (by omega), IntKind.wrap_u64]; omega
      have e3 : IntKind.u64.wrap ((y : Int) % 256) = ((y % 256 : Nat) : Int) := by rw [IntKind.wrap_u64]; omega
      have e4 : IntKind.u64.wrap ((y : Int).tdiv 256) = ((y / 256 : Nat) : Int) := by rw [Int.tdiv_eq_ediv_of_nonneg (by omega), IntKind.wrap_u64]; omega
      have e5 : IntKind.u64.wrap ((y : Int) / 256) = ((y / 256 : Nat) : Int) := by rw [IntKind.wrap_u64]; omega
      clear H0 HL0 hy hM hsn hnx
      go_upto_region 5 with (at_builtin; refine wpList_append_own _ rfl _ _ 57 rfl B 5 i0 (.int .u8 0) 1 1 Tryz.underlying57 hi0 hz0 hz1 hz2 rfl (by decide) _ n _ rfl (H.out.alloc _) ⟨_, 0, none⟩ 1 1 [.int .u8 ((y % 256 : Nat) : Int)] rfl rfl (cell_one _ _ _) (by simp [Value.oneCell']) (by unfold maxLen; omega) (by omega) (by simp; have := HL.out.size; omega) ?_; intro v1 W1 hown1 hgrow1 hnil1; clear hnil1; have hb1 : Below B _ W1 := ((Below.refl _ _).alloc (by have := HL.out.size; omega) _).grown hgrow1 (by simp; have := HL.out.size; omega) (fun j hj => (H.out.lt j hj).1); have HO1 : Hid (W1.ownsRow B 5 1 v1 (n + 1) (u8l (M ++ [y % 256]))) := (by rw [u8l_app]; exact hown1); clear hown1 hgrow1 H h47)
      go_wp2_with fail
      exact ⟨⟨j + 1, by omega, by rw [HX.out]; rfl, by go_num, Lib.hid (by rw [HS.out, List.length_append, hn]; exact HO1.out), Lib.hid (HL.out.trans hb1)⟩, by simp [intOf]; omega⟩
    · obtain rfl : j = k := by omega
      go_wp2_with fail
      go_ret
      exact ⟨_, rfl, H.out, HL.out⟩

set_option maxRecDepth 100000 in
set_option maxHeartbeats 8000000 in
theorem value_of (W : World) (g o n c : Nat) (L : List Nat) (hn : n ≤ 8) (hL : L.length = n) (hlt : ∀ x ∈ L, x < 256) (h : ∀ j, j < n → W.cell? ⟨g, o + j, none⟩ = some (.int .u8 ((L.getD j 0 : Nat) : Int))) :
    Calls Tryz.prog 54 #[.slice (some ⟨g, o, none⟩) n c] W fun e W' => e = .returned (.int .u64 ((valN L : Nat) : Int)) ∧ W' = W := by
  have HC := Lib.hid h
  have HX := Lib.hid hlt
  clear h hlt
  go_enter Tryz.func54, Tryz.ntmps54
  go_wp2_with fail
  go_loopw [3, 4] (fun vx vi wr => ∃ j : Nat, j ≤ n ∧ vx = .int .u64 ((valN (L.drop j) : Nat) : Int) ∧ vi = .int .i64 ((j : Int) - 1) ∧ wr = W) (fun _ vi _ => (intOf vi + 1).toNat)
  case atStart =>
    refine ⟨n, by omega, ?_, ?_, rfl⟩
    · rw [List.drop_eq_nil_of_le (by omega)]; rfl
    · rfl
  case round =>
    obtain ⟨j, hj, rfl, rfl, rfl⟩ := hrel
    cases j with
    | succ i =>
      have hd : L.drop i = L.getD i 0 :: L.drop (i + 1) := by
        rw [List.drop_eq_getElem_cons (by omega), List.getD_eq_getElem?_getD, List.getElem?_eq_getElem (by omega)]
        rfl
      have hv : valN (L.drop i) = L.getD i 0 + 256 * valN (L.drop (i + 1)) := by rw [hd]; rfl
      have hx : L.getD i 0 < 256 := by
        rw [List.getD_eq_getElem?_getD, List.getElem?_eq_getElem (by omega)]
        exact HX.out _ (List.getElem_mem _)
      have hvl : valN (L.drop (i + 1)) < 256 ^ 7 := by
        refine Nat.lt_of_lt_of_le (val_lt _ (fun x hx => HX.out x (List.mem_of_mem_drop hx))) (Nat.pow_le_pow_right (by decide) ?_)
        rw [List.length_drop]; omega
      have c0 := HC.out i (by omega)
      obtain ⟨b, hb⟩ : ∃ b, L.getD i 0 = b := ⟨_, rfl⟩
      obtain ⟨y, hy⟩ : ∃ y, valN (L.drop (i + 1)) = y := ⟨_, rfl⟩
      rw [hb] at c0 hx hv
      rw [hy] at hv hvl ⊢
      have HV := Lib.hid hv
      have ei : ((i + 1 : Nat) : Int) - 1 = (i : Int) := by omega
      rw [ei]
      have e1 : IntKind.u64.wrap (y * 256 : Int) = ((y * 256 : Nat) : Int) := by rw [IntKind.wrap_u64]; omega
      have e2 : IntKind.u64.wrap (b : Int) = (b : Int) := by rw [IntKind.wrap_u64]; omega
      have e3 : IntKind.u64.wrap (((y * 256 : Nat) : Int) + (b : Int)) = ((b + 256 * y : Nat) : Int) := by rw [IntKind.wrap_u64]; omega
      have hi1 : (i : Int) < (n : Int) := by omega
      clear hd hv hb hy
      go_wp2_with fail
      exact ⟨⟨i, by omega, by rw [HV.out]; congr 1; omega, rfl, trivial⟩, by simp [intOf]⟩
    | zero =>
      go_wp2_with fail
      go_ret
      exact ⟨rfl, rfl⟩
end Go.Proofs.YtmdniebedflpbaaGreatDoor
