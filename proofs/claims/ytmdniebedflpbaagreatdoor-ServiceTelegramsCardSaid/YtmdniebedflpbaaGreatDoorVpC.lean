/-
  WORDS: lists of bytes; WALKS: Pack's closure that writes a number out.
-/
import Derived.Test.YtmdniebedflpbaaGreatDoorVpB
import Derived.Test.YtmdniebedflpbaaGreatDoorVsH
import Derived.Test.YtmdniebedflpbaaGreatDoorVtE
import Derived.Lib.SlBytesRow
namespace Go.Proofs.YtmdniebedflpbaaGreatDoor
open Go.RowKit

theorem leN_snoc : ∀ (k n : Nat), leN n (k + 1) = leN n k ++ [n / 256 ^ k % 256]
  | 0, n => by simp [leN]
  | k + 1, n => by
    rw [leN, leN_snoc k, leN, List.cons_append, Nat.div_div_eq_div_mul, Nat.pow_succ, Nat.mul_comm (256 ^ k) 256]
theorem valN_snoc : ∀ (l : List Nat) (b : Nat), valN (l ++ [b]) = valN l + 256 ^ l.length * b
  | [], b => by simp [valN]
  | a :: l, b => by
    rw [List.cons_append, valN, valN_snoc l, valN, List.length_cons, Nat.pow_succ, Nat.mul_add, ← Nat.mul_assoc, Nat.mul_comm 256 (256 ^ l.length)]
    omega
/-- Bytes, as cells, as a string. -/
def u8l (L : List Nat) : List Value := L.map fun (x : Nat) => Value.int .u8 (x : Int)
theorem u8l_len (L : List Nat) : (u8l L).length = L.length := by simp [u8l]
theorem u8l_app (L M : List Nat) : u8l (L ++ M) = u8l L ++ u8l M := by simp [u8l]
theorem u8l_one (L : List Nat) : ∀ v ∈ u8l L, v.oneCell' = true := by
  intro v hv
  obtain ⟨x, _, rfl⟩ := List.mem_map.1 hv
  rfl
theorem u8l_get {L : List Nat} {j : Nat} (h : j < L.length) : (u8l L)[j]? = some (.int .u8 ((L.getD j 0 : Nat) : Int)) := by
  simp [u8l, List.getElem?_map, List.getElem?_eq_getElem h, List.getD_eq_getElem?_getD]
def bsOf (L : List Nat) : ByteArray := ⟨(L.map UInt8.ofNat).toArray⟩
theorem bsOf_size (L : List Nat) : (bsOf L).size = L.length := by
  show (L.map UInt8.ofNat).toArray.size = _
  simp
theorem bsOf_list (L : List Nat) : (bsOf L).data.toList = L.map UInt8.ofNat := by simp [bsOf]
/-- Cells that are bytes are those of a string. -/
theorem bytes_of {W : World} {g o : Nat} {L : List Nat} (hL : ∀ x ∈ L, x < 256) (h : ∀ j, j < L.length → W.cell? ⟨g, o + j, none⟩ = some (.int .u8 ((L.getD j 0 : Nat) : Int))) : Lib.Bytes W g o (bsOf L) := by
  intro j hj
  have hj' : j < L.length := by rw [bsOf_size] at hj; exact hj
  rw [h j hj']
  have e : (bsOf L)[j] = UInt8.ofNat (L.getD j 0) := by
    have : (bsOf L).data.toList[j]'(by rw [bsOf_list]; simpa using hj') = UInt8.ofNat (L.getD j 0) := by
      simp only [bsOf_list, List.getElem_map, List.getD_eq_getElem?_getD, List.getElem?_eq_getElem hj', Option.getD_some]
    rw [← this]
    simp [ByteArray.getElem_eq_getElem_data]
  have hx : L.getD j 0 < 256 := by
    rw [List.getD_eq_getElem?_getD, List.getElem?_eq_getElem hj']
    exact hL _ (List.getElem_mem hj')
  rw [e, UInt8.toNat_ofNat', Nat.mod_eq_of_lt hx]
/-- The cells of a list of one's own. -/
theorem own_cell {W : World} {B n c : Nat} {a : Option Addr} {e : TypeId} {xs : List Value} (h : W.ownsRow B e 1 (.slice a n c) n xs) (hn : 0 < n) : ∃ g, a = some ⟨g, 0, none⟩ ∧ B ≤ g ∧ n ≤ c ∧ ∀ j v, xs[j]? = some v → W.cell? ⟨g, j, none⟩ = some v := by
  obtain ⟨hl, h⟩ := h
  rcases h with ⟨hv, h0⟩ | ⟨g, cap, cur, hv, hb, hc, hcap, _, hs, ht⟩
  · omega
  · obtain ⟨rfl, _, rfl⟩ : a = some ⟨g, 0, none⟩ ∧ n = n ∧ c = cap := by simpa using hv
    refine ⟨g, rfl, hb, hcap, fun j v hj => ?_⟩
    refine cell_h hc ?_
    rw [← ht] at hj
    rw [List.getElem?_take] at hj
    split at hj
    · simpa using hj
    · exact absurd hj (by simp)
theorem x_u8 : (Tryz.prog.info? 5).map (fun i => (i.zero, i.size, i.bytes)) = some (some (.int .u8 0), 1, 1) := by kernel_rfl
/-- The box with the bytes that were written out. -/
structure Pts (w W : World) (bo : Nat) (L : List Nat) : Prop where
  low : w.heap.size ≤ bo
  row : ∃ v, W.heap[bo]? = some (.cells #[v] 57 (0, 0)) ∧ W.ownsRow (bo + 1) 5 1 v L.length (u8l L)
  below : Below w.heap.size w W

set_option maxRecDepth 100000 in
set_option maxHeartbeats 8000000 in
theorem put_of (w W : World) (bo : Nat) (L : List Nat) (x k : Nat) (h : Pts w W bo L) (hx : x < 18446744073709551616) (hk : k ≤ 8) (hL : L.length ≤ 100) :
    Calls Tryz.prog 51 #[.int .u64 (x : Int), .int .i64 (k : Int), .pointer (some ⟨bo, 0, none⟩)] W fun e W' => e = .returned (.tuple #[]) ∧ Pts w W' bo (L ++ leN x k) := by
  have H0 := Lib.hid h
  clear h
  obtain ⟨i0, hi0, hz0, hz1, hz2⟩ := info_parts x_u8
  go_enter Tryz.func51, Tryz.ntmps51
  go_wp2_with fail
  go_loopw [0, 6] (fun vx vi wr => ∃ j : Nat, j ≤ k ∧ vx = .int .u64 ((x / 256 ^ j : Nat) : Int) ∧ vi = .int .i64 (j : Int) ∧ Hid (Pts w wr bo (L ++ leN x j))) (fun _ vi _ => k - (intOf vi).toNat)
  case atStart => exact ⟨0, by omega, by simp, rfl, Lib.hid (by simpa [leN] using H0.out)⟩
  case round =>
    obtain ⟨j, hj, rfl, rfl, H⟩ := hrel
    by_cases hlt : j < k
    · have hkn : (j : Int) < (k : Int) := by omega
      obtain ⟨y, hy⟩ : ∃ y, x / 256 ^ j = y := ⟨_, rfl⟩
      have hnx : x / 256 ^ (j + 1) = y / 256 := by rw [Nat.pow_succ, ← Nat.div_div_eq_div_mul, hy]
      have hsn : L ++ leN x (j + 1) = L ++ leN x j ++ [y % 256] := by rw [leN_snoc, hy, List.append_assoc]
      have hyx : y < 18446744073709551616 := by rw [← hy]; exact Nat.lt_of_le_of_lt (Nat.div_le_self _ _) hx
      rw [hy]
      obtain ⟨n, hn⟩ : ∃ n, (L ++ leN x j).length = n := ⟨_, rfl⟩
      have hn2 : n ≤ 108 := by rw [← hn, List.length_append, leN_len]; omega
      obtain ⟨M, hM⟩ : ∃ M, L ++ leN x j = M := ⟨_, rfl⟩
      rw [hM] at H hsn hn
      obtain ⟨hold, ⟨v, hv, hO⟩, hlow⟩ := H.out
      have HV := Lib.hid hv
      have HL := Lib.hid hlow
      rw [hn] at hO
      have HO := Lib.hid hO
      have HS := Lib.hid hsn
      have HX := Lib.hid hnx
      have hsz := (Array.getElem?_eq_some_iff.1 hv).1
      have r0 : wr.cell? ⟨bo, 0, none⟩ = some v := cell_h hv rfl
      have rf := fz_h hv 0
      have h47 := HO.out.1
      clear hO hlow hv H H0 hy hM hsn hnx
      go_upto_region 3 with (at_builtin; refine wpList_append_own _ rfl _ _ 57 rfl (bo + 1) 5 i0 (.int .u8 0) 1 1 Tryz.underlying57 hi0 hz0 hz1 hz2 rfl (by decide) _ n _ rfl (HO.out.alloc _) ⟨wr.heap.size, 0, none⟩ 1 1 [.int .u8 ((y : Int) % 256)] rfl rfl (cell_one _ _ _) (by simp [Value.oneCell']) (by unfold maxLen; omega) (by omega) (by simp; omega) ?_; intro v1 W1 hown1 hgrow1 hnil1; clear hnil1; have hb1 : Below (bo + 1) wr W1 := ((Below.refl _ wr).alloc (by omega) _).grown hgrow1 (by simp; omega) (fun j hj => (HO.out.lt j hj).1); have HO1 : Hid (W1.ownsRow (bo + 1) 5 1 v1 (n + 1) (u8l (M ++ [y % 256]))) := (by rw [u8l_app, show u8l [y % 256] = [.int .u8 ((y : Int) % 256)] from rfl]; exact hown1); have HV1 := Lib.hid ((hb1.block _ (by omega)).trans HV.out); have HL1 : Hid (Below w.heap.size w W1) := Lib.hid (HL.out.trans (hb1.mono (by omega))); have r1 := cell_h HV1.out rfl (k := 0); have rf1 := fz_h HV1.out 0; obtain ⟨g1, cap1, rfl⟩ := ownsRow_succ HO1.out; clear hown1 hgrow1 hb1 HO HV HL r0 rf h47)
      obtain ⟨W2, hW2⟩ : ∃ W2, W1.setCell ⟨bo, 0, none⟩ (.slice (some ⟨g1, 0, none⟩) (n + 1) cap1) = W2 := ⟨_, rfl⟩
      rw [hW2]
      have HP : Hid (Pts w W2 bo (M ++ [y % 256])) := Lib.hid ⟨hold, ⟨_, by rw [← hW2]; exact heap_set HV1.out _, by rw [← hW2, List.length_append, hn]; exact ownsRow_setCell_below HO1.out (by simp) _⟩, by rw [← hW2]; exact HL1.out.setCell (by simp; omega) _⟩
      clear hW2 HV1 HO1 HL1 r1 rf1
      go_wp2_with fail
      exact ⟨⟨j + 1, by omega, by rw [HX.out]; rfl, by go_num, by rw [HS.out]; exact HP⟩, by simp [intOf]; omega⟩
    · obtain rfl : j = k := by omega
      go_wp2_with fail
      first | go_end0 | refine bodyPost_ret (results_none rfl _ _ _) rfl ?_
      exact ⟨rfl, H.out⟩
end Go.Proofs.YtmdniebedflpbaaGreatDoor
