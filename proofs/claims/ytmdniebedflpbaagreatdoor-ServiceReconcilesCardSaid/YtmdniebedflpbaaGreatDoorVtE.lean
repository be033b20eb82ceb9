/-
  WALKS: Digest of the program and of the reference.
-/
import Derived.Test.YtmdniebedflpbaaGreatDoorVtD
namespace Go.Proofs.YtmdniebedflpbaaGreatDoor
open Go.RowKit

/-- One byte more. -/
theorem dig_take {h : Nat} {l : List UInt8} {k : Nat} (hk : k < l.length) : dig h (l.take (k + 1)) = dst1 (dig h (l.take k)) l[k].toNat := by
  rw [List.take_succ_eq_append_getElem hk, dig_snoc]

set_option maxRecDepth 100000 in
set_option maxHeartbeats 4000000 in
theorem digest_of (w : World) (h : Nat) (hh : h < 18446744073709551616) (s : ByteArray) (hs : s.size ≤ maxLen) :
    Calls Tryz.prog 23 #[.int .u64 (h : Int), .string s] w fun e w' => e = .returned (.int .u64 ((dig h s.data.toList : Nat) : Int)) ∧ w' = w := by
  have hmx : maxLen = 9223372036854775807 := rfl
  obtain ⟨r, hr⟩ : ∃ r, dig h s.data.toList = r := ⟨_, rfl⟩
  rw [hr]
  have HR := Lib.hid hr
  clear hr
  go_enter Tryz.func23, Tryz.ntmps23
  go_wp2_with fail
  go_loopw [0, 8] (fun vh vi wr => ∃ k : Nat, k ≤ s.size ∧ vi = .int .i64 k ∧ vh = .int .u64 ((dig h (s.data.toList.take k) : Nat) : Int) ∧ wr = w) (fun _ vi _ => s.size - (intOf vi).toNat)
  case atStart => exact ⟨0, by omega, rfl, rfl, rfl⟩
  case round =>
    obtain ⟨k, hk, rfl, rfl, rfl⟩ := hrel
    by_cases hlt : k < s.size
    · obtain ⟨g, hg⟩ : ∃ g, dig h (s.data.toList.take k) = g := ⟨_, rfl⟩
      rw [hg]
      have hg2 : g < 18446744073709551616 := by rw [← hg]; exact dig_lt _ hh
      have hkn : (k : Int) < (s.size : Int) := by omega
      obtain ⟨c, hc⟩ : ∃ c, s[k] = c := ⟨_, rfl⟩
      have hc2 : c.toNat < 256 := UInt8.toNat_lt c
      have hcl : s.data.toList[k]'(by simpa using hlt) = c := by rw [← hc]; simp [ByteArray.getElem_eq_getElem_data]
      have hnext : dig h (s.data.toList.take (k + 1)) = dst1 g c.toNat := by rw [dig_take (by simpa using hlt), hg, hcl]
      have HX := Lib.hid hnext
      have E1 : Hid (IntKind.u64.wrap ((c.toNat : Nat) : Int) = ((c.toNat : Nat) : Int)) := by show _ = _; rw [IntKind.wrap_u64]; omega
      have E2 : Hid (bits .xor .u64 ((g : Nat) : Int) ((c.toNat : Nat) : Int) = ((g ^^^ c.toNat : Nat) : Int)) := bits_xor_u64_nat _ _ hg2 (by omega)
      have E3 : Hid (IntKind.u64.wrap (((g ^^^ c.toNat : Nat) : Int) * 1099511628211) = (((g ^^^ c.toNat) * 1099511628211 % 18446744073709551616 : Nat) : Int)) := by show _ = _; rw [IntKind.wrap_u64, Int.natCast_emod, Int.natCast_mul]; rfl
      have HR1 := Lib.hid (rotl_of wr ((g ^^^ c.toNat) * 1099511628211 % 18446744073709551616) (Nat.mod_lt _ (by decide)))
      clear hnext hcl hc2 hg hg2
      go_wp2_with fail
      simp only [E1.out, E2.out, E3.out]
      refine HR1.out.mono ?_
      rintro e w9 ⟨rfl, rfl⟩
      have HX2 : Hid (dig h (s.data.toList.take (k + 1)) = rot ((g ^^^ c.toNat) * 1099511628211 % 18446744073709551616)) := HX.out
      obtain ⟨z, hz⟩ : ∃ z, rot ((g ^^^ c.toNat) * 1099511628211 % 18446744073709551616) = z := ⟨_, rfl⟩
      rw [hz] at HX2 ⊢
      clear E1 E2 E3 HR1 HX hz hc
      go_wp2_with fail
      exact ⟨⟨k + 1, by omega, by go_num, by rw [HX2.out], trivial⟩, by simp [intOf]; omega⟩
    · obtain rfl : k = s.size := by omega
      have e : s.data.toList.take s.size = s.data.toList := List.take_of_length_le (by simp)
      rw [e, HR.out]
      go_wp2_with fail
      go_ret
      exact ⟨rfl, rfl⟩

set_option maxRecDepth 100000 in
set_option maxHeartbeats 4000000 in
theorem rdigest_of (w : World) (h : Nat) (hh : h < 18446744073709551616) (s : ByteArray) (hs : s.size ≤ maxLen) :
    Calls Tryz.prog 24 #[.int .u64 (h : Int), .string s] w fun e w' => e = .returned (.int .u64 ((dig h s.data.toList : Nat) : Int)) ∧ w' = w := by
  have hmx : maxLen = 9223372036854775807 := rfl
  obtain ⟨r, hr⟩ : ∃ r, dig h s.data.toList = r := ⟨_, rfl⟩
  rw [hr]
  have HR := Lib.hid hr
  clear hr
  go_enter Tryz.func24, Tryz.ntmps24
  go_wp2_with fail
  go_loopw [5, 6] (fun vh vi wr => ∃ k : Nat, k ≤ s.size ∧ vi = .int .i64 k ∧ vh = .int .u64 ((dig h (s.data.toList.take k) : Nat) : Int) ∧ wr = w) (fun _ vi _ => s.size - (intOf vi).toNat)
  case atStart => exact ⟨0, by omega, rfl, rfl, rfl⟩
  case round =>
    obtain ⟨k, hk, rfl, rfl, rfl⟩ := hrel
    by_cases hlt : k < s.size
    · obtain ⟨g, hg⟩ : ∃ g, dig h (s.data.toList.take k) = g := ⟨_, rfl⟩
      rw [hg]
      have hg2 : g < 18446744073709551616 := by rw [← hg]; exact dig_lt _ hh
      have hkn : (k : Int) < (s.size : Int) := by omega
      obtain ⟨c, hc⟩ : ∃ c, s[k] = c := ⟨_, rfl⟩
      have hc2 : c.toNat < 256 := UInt8.toNat_lt c
      have hcl : s.data.toList[k]'(by simpa using hlt) = c := by rw [← hc]; simp [ByteArray.getElem_eq_getElem_data]
      have hnext : dig h (s.data.toList.take (k + 1)) = dst1 g c.toNat := by rw [dig_take (by simpa using hlt), hg, hcl]
      have HX := Lib.hid hnext
      obtain ⟨y, hy⟩ : ∃ y, (g ^^^ c.toNat) * 1099511628211 % 18446744073709551616 = y := ⟨_, rfl⟩
      have hy2 : y < 18446744073709551616 := by rw [← hy]; exact Nat.mod_lt _ (by decide)
      have E1 : Hid (IntKind.u64.wrap ((c.toNat : Nat) : Int) = ((c.toNat : Nat) : Int)) := by show _ = _; rw [IntKind.wrap_u64]; omega
      have E2 : Hid (bits .xor .u64 ((g : Nat) : Int) ((c.toNat : Nat) : Int) = ((g ^^^ c.toNat : Nat) : Int)) := bits_xor_u64_nat _ _ hg2 (by omega)
      have E3 : Hid (IntKind.u64.wrap (((g ^^^ c.toNat : Nat) : Int) * 1099511628211) = ((y : Nat) : Int)) := by show _ = _; rw [IntKind.wrap_u64, ← hy, Int.natCast_emod, Int.natCast_mul]; rfl
      have E4 : Hid (IntKind.u64.wrap ((y : Int) * 8388608) = ((y * 8388608 % 18446744073709551616 : Nat) : Int)) := by show _ = _; rw [IntKind.wrap_u64]; omega
      have E5 : Hid (((y : Int) / 2199023255552) = ((y / 2199023255552 : Nat) : Int)) := by show _ = _; omega
      have hr2 := rot_lt hy2
      have E6 : Hid (IntKind.u64.wrap (((y * 8388608 % 18446744073709551616 : Nat) : Int) + ((y / 2199023255552 : Nat) : Int)) = ((dst1 g c.toNat : Nat) : Int)) := by
        show _ = _
        unfold dst1
        rw [hy]
        unfold rot at hr2 ⊢
        rw [IntKind.wrap_u64]
        omega
      clear hnext hcl hc2 hg hg2 hy hy2 hr2
      go_wp2_with fail
      simp only [E1.out, E2.out, E3.out, E4.out, E5.out, E6.out]
      exact ⟨⟨k + 1, by omega, by go_num, by rw [HX.out], trivial⟩, by simp [intOf]; omega⟩
    · obtain rfl : k = s.size := by omega
      have e : s.data.toList.take s.size = s.data.toList := List.take_of_length_le (by simp)
      rw [e, HR.out]
      go_wp2_with fail
      go_ret
      exact ⟨rfl, rfl⟩
end Go.Proofs.YtmdniebedflpbaaGreatDoor
