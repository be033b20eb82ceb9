/-
  WALKS: growth: Alone of the program; twice, has of the reference.
-/
import Derived.Test.YtlbffdgojmjijaaGreatDoorGsC
import Derived.Test.YtlbffdgojmjijaaGreatDoorGsB
import Derived.Test.YtlbffdgojmjijaaGreatDoorGrG
namespace Go.Proofs.YtlbffdgojmjijaaGreatDoor
open Go.RowKit

set_option maxRecDepth 100000 in
set_option maxHeartbeats 4000000 in
theorem hhas_of (w : World) (side i m c : Nat) (a : Option Addr) (f : Nat → Int) (hside : side ≤ 1) (hm : m ≤ 4611686018427387903) (hS : Sl w 2 a m f) :
    Calls Tryz.prog 50 #[.slice a m c, .int .i64 (side : Int), .int .i64 (i : Int)] w fun e w' => e = .returned (.bool (hasP f m side i)) ∧ w' = w := by
  have HS := Lib.hid hS
  clear hS
  go_enter Tryz.func50, Tryz.ntmps50
  go_wp2_with fail
  go_loopw [7] (fun vk wr => ∃ k : Nat, k ≤ m ∧ vk = .int .i64 k ∧ Hid (∀ j, j < k → fvP f side i j = 0) ∧ wr = w) (fun vk _ => m - (intOf vk).toNat)
  case atStart => exact ⟨0, by omega, rfl, fun j hj => by omega, rfl⟩
  case round =>
    obtain ⟨k, hk, rfl, HI, rfl⟩ := hrel
    by_cases hlt : k < m
    · obtain ⟨b, o, rfl, hI⟩ := HS.out (by omega)
      have d0 := hI (k * 2) (by omega)
      have d1 := hI.at (k * 2) 1 (by omega)
      have hwi : IntKind.i64.wrap ((k : Int) + 1) = (k : Int) + 1 := IntWalk.i64_in _ (by omega)
      obtain ⟨z, hz⟩ : ∃ z, f (k * 2 + side) = z := ⟨_, rfl⟩
      have hv : fvP f side i k = if z = (i : Int) then (k : Int) + 1 else 0 := by unfold fvP; rw [hz]
      have HV := Lib.hid hv
      have hd : (side = 0 ∧ f (k * 2) = z) ∨ (side = 1 ∧ f (k * 2 + 1) = z) := by
        rcases (by omega : side = 0 ∨ side = 1) with rfl | rfl
        · exact .inl ⟨rfl, hz⟩
        · exact .inr ⟨rfl, hz⟩
      clear hI hz hv
      rcases hd with ⟨rfl, hz⟩ | ⟨rfl, hz⟩
      · by_cases h1 : z = (i : Int)
        · have hv : fvP f 0 i k = (k : Int) + 1 := by rw [HV.out, if_pos h1]
          have hh : hasP f m 0 i = true := by unfold hasP; rw [first_at HI.out (by rw [hv]; omega) hlt, hv, decide_eq_true_iff]; omega
          have HH := Lib.hid hh
          rw [hz, h1] at d0
          clear hv hh hz
          go_wp2_with fail
          rw [HH.out]
          (try simp only [Exit.inBlock, Exit.then])
          first | go_ret | go_ret2
          exact ⟨rfl, rfl⟩
        · have hv : fvP f 0 i k = 0 := by rw [HV.out, if_neg h1]
          rw [hz] at d0
          clear hz
          go_wp2_with fail
          exact ⟨⟨k + 1, by omega, by go_num, (fun j hj => by
            by_cases ej : j = k
            · subst ej; exact hv
            · exact HI.out j (by omega)), trivial⟩, by simp [intOf]; omega⟩
      · by_cases h1 : z = (i : Int)
        · have hv : fvP f 1 i k = (k : Int) + 1 := by rw [HV.out, if_pos h1]
          have hh : hasP f m 1 i = true := by unfold hasP; rw [first_at HI.out (by rw [hv]; omega) hlt, hv, decide_eq_true_iff]; omega
          have HH := Lib.hid hh
          rw [hz, h1] at d1
          clear hv hh hz
          go_wp2_with fail
          rw [HH.out]
          (try simp only [Exit.inBlock, Exit.then])
          first | go_ret | go_ret2
          exact ⟨rfl, rfl⟩
        · have hv : fvP f 1 i k = 0 := by rw [HV.out, if_neg h1]
          rw [hz] at d1
          clear hz
          go_wp2_with fail
          exact ⟨⟨k + 1, by omega, by go_num, (fun j hj => by
            by_cases ej : j = k
            · subst ej; exact hv
            · exact HI.out j (by omega)), trivial⟩, by simp [intOf]; omega⟩
    · obtain rfl : k = m := by omega
      have hh : Hid (hasP f k side i = false) := by unfold hasP; rw [first_zero HI.out]; exact Lib.hid rfl
      go_wp2
      rw [hh.out]
      (try simp only [Exit.inBlock, Exit.then])
      first | go_ret | go_ret2
      exact ⟨rfl, rfl⟩
set_option maxRecDepth 100000 in
set_option maxHeartbeats 4000000 in
theorem htwice_of (w : World) (n m c : Nat) (a : Option Addr) (f : Nat → Int) (hn : n < m) (hm : m ≤ 4611686018427387903) (hS : Sl w 2 a m f) :
    Calls Tryz.prog 44 #[.slice a m c, .int .i64 (n : Int)] w fun e w' => e = .returned (.bool (tw f n)) ∧ Below w.heap.size w w' := by
  obtain ⟨b, o, rfl, hI⟩ := hS (by omega)
  have HI := Lib.hid hI
  have hbl : b < w.heap.size := hI.lt (by omega)
  clear hS hI
  go_enter Tryz.func44, Tryz.ntmps44
  go_wp2_with fail
  go_loopw [5] (fun vk wr => ∃ k : Nat, k ≤ n ∧ vk = .int .i64 k ∧ Hid (∀ j, j < k → ¬(f (j * 2) = f (n * 2)) ∧ ¬(f (j * 2 + 1) = f (n * 2 + 1))) ∧ Hid (Below w.heap.size w wr)) (fun vk _ => n - (intOf vk).toNat)
  case atStart => exact ⟨0, by omega, rfl, fun j hj => by omega, Below.refl _ _⟩
  case round =>
    obtain ⟨k, hk, rfl, HN, HB⟩ := hrel
    by_cases hlt : k < n
    · have hJ := HI.out.keep HB.out hbl
      have d0 := hJ (k * 2) (by omega)
      have d1 := hJ.at (k * 2) 1 (by omega)
      have e0 := hJ (n * 2) (by omega)
      have e1 := hJ.at (n * 2) 1 (by omega)
      have hwi : IntKind.i64.wrap ((k : Int) + 1) = (k : Int) + 1 := IntWalk.i64_in _ (by omega)
      have hkm : (k : Int) < (m : Int) := by omega
      have hnm : (n : Int) < (m : Int) := by omega
      have HT : Hid ((f (k * 2) = f (n * 2) ∨ f (k * 2 + 1) = f (n * 2 + 1)) → tw f n = true) := fun h => by
        unfold tw
        rw [List.any_eq_true]
        exact ⟨k, List.mem_range.2 hlt, by simpa using h⟩
      have HS : Hid (¬ f (k * 2) = f (n * 2) → ¬ f (k * 2 + 1) = f (n * 2 + 1) → ∀ j, j < k + 1 → ¬(f (j * 2) = f (n * 2)) ∧ ¬(f (j * 2 + 1) = f (n * 2 + 1))) := fun h1 h2 j hj => by
        by_cases ej : j = k
        · subst ej; exact ⟨h1, h2⟩
        · exact HN.out j (by omega)
      clear hJ
      generalize f (k * 2) = x0 at d0 HT HS
      generalize f (k * 2 + 1) = x1 at d1 HT HS
      generalize f (n * 2) = y0 at e0 HT HS
      generalize f (n * 2 + 1) = y1 at e1 HT HS
      by_cases h1 : x0 = y0
      · have HT2 := Lib.hid (HT.out (.inl h1))
        clear HT HS HN
        subst h1
        go_upto_region 4 with fail
        go_quiet (fail)
        have HB2 : Hid (Below w.heap.size w (wr.drewN nq)) := below_drewN HB.out nq
        go_wp2_with fail
        rw [HT2.out]
        (try simp only [Exit.inBlock, Exit.then])
        first | go_ret | go_ret2
        exact ⟨rfl, HB2.out⟩
      · by_cases h2 : x1 = y1
        · have HT2 := Lib.hid (HT.out (.inr h2))
          clear HT HS HN
          subst h2
          go_upto_region 4 with fail
          go_quiet (fail)
          have HB2 : Hid (Below w.heap.size w (wr.drewN nq)) := below_drewN HB.out nq
          go_wp2_with fail
          rw [HT2.out]
          (try simp only [Exit.inBlock, Exit.then])
          first | go_ret | go_ret2
          exact ⟨rfl, HB2.out⟩
        · have HS2 := Lib.hid (HS.out h1 h2)
          clear HT HS
          go_upto_region 4 with fail
          go_quiet (fail)
          have HB2 : Hid (Below w.heap.size w (wr.drewN nq)) := below_drewN HB.out nq
          go_wp2_with fail
          · exfalso
            rename_i hc
            revert hc
            simp [h1, h2]
          · exact ⟨⟨k + 1, by omega, by go_num, HS2.out, HB2.out⟩, by simp [intOf]; omega⟩
    · obtain rfl : k = n := by omega
      have HT2 : Hid (tw f k = false) := by
        unfold tw
        rw [List.any_eq_false]
        intro j hj
        have := HN.out j (List.mem_range.1 hj)
        simp [this.1, this.2]
      go_wp2
      rw [HT2.out]
      (try simp only [Exit.inBlock, Exit.then])
      first | go_ret | go_ret2
      exact ⟨rfl, HB.out⟩
end Go.Proofs.YtlbffdgojmjijaaGreatDoor
