/-
  WALKS: strconv.FormatUint at base 16, hexOf.
-/
import Derived.Test.YtmdniebedflpbaaGreatDoorVuA
import Derived.Lib.SlBytesRow
namespace Go.Proofs.YtmdniebedflpbaaGreatDoor
open Go.RowKit

/-- The digits' array behind k rounds. -/
def HxAt (W : World) (b x k : Nat) : Prop := ∃ cs : Array Value, W.heap[b]? = some (.cells cs 253 (0, 0)) ∧ cs.size = 65 ∧ ∀ t, t < k → cs[64 - t]? = some (.int .u8 ((hexAt x t).toNat : Int))
theorem HxAt.cell {W : World} {b x k : Nat} (h : HxAt W b x k) (m : Nat) (hm : m < 65) : ∃ v, W.cell? ⟨b, m, none⟩ = some v := by
  obtain ⟨cs, h1, h2, _⟩ := h
  exact ⟨cs[m]'(by omega), cell_h h1 (by simp)⟩
theorem HxAt.fz {W : World} {b x k : Nat} (h : HxAt W b x k) (m : Nat) : W.frozen? ⟨b, m, none⟩ = false := by
  obtain ⟨cs, h1, _⟩ := h
  exact fz_h h1 m
theorem HxAt.set {W : World} {b x k m : Nat} (h : HxAt W b x k) (hm : m + k = 64) : HxAt (W.setCell ⟨b, m, none⟩ (.int .u8 ((hexAt x k).toNat : Int))) b x (k + 1) := by
  obtain ⟨cs, h1, h2, h3⟩ := h
  refine ⟨_, heap_set h1 _, by simpa using h2, fun t ht => ?_⟩
  by_cases e : t = k
  · subst e
    rw [show 64 - t = m by omega]
    simp [h2, show m < 65 by omega]
  · rw [Array.getElem?_setIfInBounds_ne (by omega)]
    exact h3 t (by omega)
theorem dg_fin : ∀ d : Fin 16, (({ data := #[48, 49, 50, 51, 52, 53, 54, 55, 56, 57, 97, 98, 99, 100, 101, 102, 103, 104, 105, 106, 107, 108, 109, 110, 111, 112, 113, 114, 115, 116, 117, 118, 119, 120, 121, 122] } : ByteArray)[d.val]'(Nat.lt_trans d.isLt (by decide))) = hexc d.val := by decide
theorem dg_at {d : Nat} (h : d < ({ data := #[48, 49, 50, 51, 52, 53, 54, 55, 56, 57, 97, 98, 99, 100, 101, 102, 103, 104, 105, 106, 107, 108, 109, 110, 111, 112, 113, 114, 115, 116, 117, 118, 119, 120, 121, 122] } : ByteArray).size) (hd : d < 16) : ({ data := #[48, 49, 50, 51, 52, 53, 54, 55, 56, 57, 97, 98, 99, 100, 101, 102, 103, 104, 105, 106, 107, 108, 109, 110, 111, 112, 113, 114, 115, 116, 117, 118, 119, 120, 121, 122] } : ByteArray)[d] = hexc d := dg_fin ⟨d, hd⟩
theorem deep16 {x k : Nat} (hx : x < 18446744073709551616) (h : 16 ≤ x / 16 ^ k) (hk : k ≤ 15) : k + 1 ≤ 15 := by
  by_cases e : k = 15
  · subst e
    have : x / 16 ^ 15 < 16 := by rw [show (16 : Nat) ^ 15 = 1152921504606846976 by decide]; omega
    omega
  · omega
theorem div16 (x k : Nat) : x / 16 ^ k / 16 = x / 16 ^ (k + 1) := by rw [Nat.div_div_eq_div_mul, Nat.pow_succ]

theorem slice_65 (W : World) (b m : Nat) (hm : m ≤ 64) : (Instr.sliceAt 253 (.pointer (some ⟨b, 0, none⟩)) (some (.int .i64 (m : Int))) none none).run Tryz.prog W = .ok (.slice (some ⟨b, m, none⟩) (65 - m) (65 - m)) W := by
  have hl : Tryz.prog.arrayLen 253 = 65 := by kernel_rfl
  rw [run_sliceAt_array_l W 253 ⟨b, 0, none⟩ (by kernel_rfl) .i64 (m : Int) (by omega) (by rw [hl]; omega)]
  rw [show (sizeOf (Tryz.prog.elem 253)).run Tryz.prog W = .ok 1 W by kernel_rfl, hl]
  simp only [Result.andThen, slicedAt, Int.toNat_natCast]
  rw [if_neg (by omega)]
  by_cases h0 : m = 0
  · subst h0; simp [Addr.add]
  · simp [Addr.add, h0]
theorem conv_hex (W : World) (b m k x : Nat) (hm : m + k = 64) (h : HxAt W b x (k + 1)) : (convert 57 9 (.slice (some ⟨b, m, none⟩) (65 - m) (65 - m))).run Tryz.prog W = .ok (.string ⟨(hexL x k).toArray⟩) W := by
  have hs : (⟨(hexL x k).toArray⟩ : ByteArray).size = 65 - m := by
    show (hexL x k).toArray.size = _
    simp [hexL_len]; omega
  have q := Lib.run_convert_whole (P := Tryz.prog) W 57 5 9 Tryz.underlying57 Tryz.underlying5 Tryz.underlying9 b m ⟨(hexL x k).toArray⟩ (fun i hi => by
    obtain ⟨cs, h1, h2, h3⟩ := h
    have hi2 : i < 65 - m := by rw [← hs]; exact hi
    have h4 := h3 (k - i) (by omega)
    rw [show 64 - (k - i) = m + i by omega] at h4
    refine (cell_h h1 h4).trans ?_
    have e : (⟨(hexL x k).toArray⟩ : ByteArray)[i] = hexAt x (k - i) := hexL_get x k i (by rw [hexL_len]; omega)
    rw [e]) (65 - m)
  rwa [hs] at q

set_option maxRecDepth 100000 in
set_option maxHeartbeats 8000000 in
theorem formatBits_of (w : World) (x : Nat) (hx : x < 18446744073709551616) (hG : Gl w) :
    Calls Tryz.prog 175 #[.slice none 0 0, .int .u64 (x : Int), .int .i64 16, .bool false, .bool false] w fun e w' => ∃ k, k ≤ 15 ∧ x < 16 ^ (k + 1) ∧ e = .returned (.tuple #[.slice none 0 0, .string ⟨(hexL x k).toArray⟩]) ∧ Below w.heap.size w w' := by
  have HG := Lib.hid hG
  clear hG
  go_enter Tryz.func175, Tryz.ntmps175
  go_wp2_with fail
  refine (pow2_16 _).mono ?_
  rintro e w2 ⟨rfl, rfl⟩
  go_wp2_with fail
  have hB0 : Below w.heap.size w (w.alloc (.cells Tryz.zeroCells253 253)) := (Below.refl _ _).alloc (Nat.le_refl _) _
  refine (tz_16 _ (HG.out.keep hB0)).mono ?_
  rintro e V ⟨rfl, rfl⟩
  have hH0 : HxAt (w.alloc (.cells Tryz.zeroCells253 253)) w.heap.size x 0 := ⟨_, new_heap _ _, by kernel_rfl, fun t ht => absurd ht (by omega)⟩
  generalize w.alloc (.cells Tryz.zeroCells253 253) = W at hB0 hH0 ⊢
  have HB := Lib.hid hB0
  have HH := Lib.hid hH0
  clear hB0 hH0 HG
  go_wp2_with fail
  go_loopw [1, 13] (fun vu vi wr => ∃ k m : Nat, k ≤ 15 ∧ m + k = 64 ∧ vu = .int .u64 ((x / 16 ^ k : Nat) : Int) ∧ vi = .int .i64 ((m : Int) + 1) ∧ Hid (HxAt wr w.heap.size x k) ∧ Hid (Below w.heap.size w wr)) (fun vu _ _ => (intOf vu).toNat)
  case atStart => exact ⟨0, 64, by omega, by omega, by simp, rfl, HH, HB⟩
  case round =>
    obtain ⟨k, m, hk, hm, rfl, rfl, HH1, HB1⟩ := hrel
    obtain ⟨u, hu⟩ : ∃ u, x / 16 ^ k = u := ⟨_, rfl⟩
    have hu2 : u < 18446744073709551616 := by rw [← hu]; exact Nat.lt_of_le_of_lt (Nat.div_le_self _ _) hx
    have hat : hexAt x k = hexc (u % 16) := by unfold hexAt; rw [hu]
    rw [hu]
    obtain ⟨c0, hc0⟩ := HH1.out.cell m (by omega)
    have hf0 := HH1.out.fz m
    have wm : IntKind.i64.wrap ((m : Int) + 1 - 1) = (m : Int) := by rw [show (m : Int) + 1 - 1 = m by omega]; exact IntWalk.i64_in _ (by omega)
    have hm0 : (0 : Int) ≤ (m : Int) ∧ (m : Int) < 65 := by omega
    by_cases hge : 16 ≤ u
    · have hgi : (16 : Int) ≤ (u : Int) := by omega
      have ha := and_15 u hu2
      have hd : (0 : Int) ≤ ((u % 16 : Nat) : Int) ∧ ((u % 16 : Nat) : Int) < 36 := by omega
      go_wp2_with fail
      rw [dg_at _ (Nat.mod_lt _ (by decide)), ← hat]
      refine ⟨⟨k + 1, m - 1, deep16 hx (by rw [hu]; exact hge) hk, by omega, ?_, ?_, HH1.out.set hm, HB1.out.setCell (Nat.le_refl _) _⟩, ?_⟩
      · rw [← div16, hu]
        congr 1
      · congr 1
        omega
      · simp [intOf]
        omega
    · have hgi : ¬ (16 : Int) ≤ (u : Int) := by omega
      have hd : (0 : Int) ≤ (u : Int) ∧ (u : Int) < 36 := by omega
      have hum : u % 16 = u := Nat.mod_eq_of_lt (by omega)
      rw [hum] at hat
      go_upto_region 30 with fail
      rw [dg_at _ (by omega), ← hat]
      have hH2 := HH1.out.set hm
      have HB2 := Lib.hid (HB1.out.setCell (p := ⟨w.heap.size, m, none⟩) (Nat.le_refl _) (.int .u8 ((hexAt x k).toNat : Int)))
      generalize wr.setCell ⟨w.heap.size, m, none⟩ (.int .u8 ((hexAt x k).toNat : Int)) = W2 at hH2 HB2 ⊢
      have hsl := slice_65 W2 w.heap.size m (by omega)
      have hcv := conv_hex W2 w.heap.size m k x hm hH2
      have hxk : x < 16 ^ (k + 1) := by
        rw [Nat.pow_succ, Nat.mul_comm]
        exact (Nat.div_lt_iff_lt_mul (Nat.pow_pos (by decide))).1 (by rw [hu]; omega)
      clear hH2 HH1 HB1 hc0 hf0
      go_wp2_with fail
      exact bodyPost_ret (v := .tuple #[.slice none 0 0, .string ⟨(hexL x k).toArray⟩]) (by simp [results, Tryz.f175, go_sem]) rfl ⟨k, hk, hxk, rfl, HB2.out⟩
end Go.Proofs.YtmdniebedflpbaaGreatDoor
