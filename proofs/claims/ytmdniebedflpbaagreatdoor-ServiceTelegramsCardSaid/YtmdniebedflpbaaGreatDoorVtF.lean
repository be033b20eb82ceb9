/-
  WALKS: the law of ServiceDigests.
-/
import Derived.Test.YtmdniebedflpbaaGreatDoorVuL
import Derived.Lib.ConvBytes
import Derived.Laws.BitsAllLaws
import Derived.Laws.Concat
namespace Go.Proofs.YtmdniebedflpbaaGreatDoor
open Go.RowKit

theorem bytes_below (w : World) (e : TypeId) (s : ByteArray) : Below w.heap.size w (Lib.bytesWorld w e s) :=
  ⟨rfl, rfl, rfl, by rw [Lib.bytesWorld_size]; omega, fun k hk => Lib.bytesWorld_at_old w e s k hk⟩
theorem bytes_fz (w : World) (e : TypeId) (s : ByteArray) (k : Nat) (hk : k < s.size) : (Lib.bytesWorld w e s).frozen? ⟨w.heap.size, k, none⟩ = false := by
  have h1 : s.size ≤ (Lib.bytesCells w e s).size := by unfold Lib.bytesCells; simp
  have h2 : ¬ (Lib.bytesCells w e s).size ≤ k := by omega
  simp [World.frozen?, Lib.bytesWorld_at_new, h2]

set_option maxRecDepth 100000 in
set_option maxHeartbeats 16000000 in
theorem serviceDigests_law (w : World) (h : Nat) (hh : h < 18446744073709551616) (s m : ByteArray) (hs : s.size ≤ maxLen) (hm : m.size ≤ maxLen) (at_ by_ : Int) (hat : 0 ≤ at_ ∧ at_ ≤ 65535) (hby : 0 ≤ by_ ∧ by_ ≤ 255) (hG : Gl w) :
    Calls Tryz.prog 6 #[.int .u64 (h : Int), .string s, .string m, .int .u16 at_, .int .u8 by_] w fun e w' => e = .returned (.bool true) ∧ Below w.heap.size w w' := by
  have hmx : maxLen = 9223372036854775807 := rfl
  have HA : Hid (∀ W, Below w.heap.size w W → Calls Tryz.prog 18 #[] W fun e w' => e = .returned (.bool true) ∧ Below W.heap.size W w') := fun W hW => awake10_of W (hG.keep hW)
  have HW0 : Hid (Below w.heap.size w w) := Below.refl _ _
  clear hG
  by_cases h1 : 2000 < s.size
  · go_enter Tryz.func6, Tryz.ntmps6
    go_wp2_with fail
    refine (HA.out _ HW0.out).mono ?_
    rintro e V ⟨rfl, hB⟩
    have HB := Lib.hid hB
    clear hB HA HW0
    go_wp2_with fail
    go_ret
    exact ⟨rfl, HB.out⟩
  by_cases h2 : 2000 < m.size
  · go_enter Tryz.func6, Tryz.ntmps6
    go_wp2_with fail
    refine (HA.out _ HW0.out).mono ?_
    rintro e V ⟨rfl, hB⟩
    have HB := Lib.hid hB
    clear hB HA HW0
    go_wp2_with fail
    go_ret
    exact ⟨rfl, HB.out⟩
  obtain ⟨t, ht⟩ : ∃ t, s ++ m = t := ⟨_, rfl⟩
  have hA : ∀ W', (Op.stringOp .add s m).run Tryz.prog W' = .ok (.string t) W' := fun W' => by rw [run_string_add_sum W' _ _ (by omega), ht]
  have hts : t.size = s.size + m.size := by rw [← ht, ByteArray.size_append]
  have htl : t.data.toList = s.data.toList ++ m.data.toList := by rw [← ht]; simp
  obtain ⟨d, hd⟩ : ∃ d, dig h t.data.toList = d := ⟨_, rfl⟩
  obtain ⟨d1, hd1⟩ : ∃ d1, dig h s.data.toList = d1 := ⟨_, rfl⟩
  have hd2 : dig d1 m.data.toList = d := by rw [← hd1, ← dig_append, ← htl, hd]
  have hd1l : d1 < 18446744073709551616 := by rw [← hd1]; exact dig_lt _ hh
  have HD : Hid (∀ W, Calls Tryz.prog 23 #[.int .u64 (h : Int), .string t] W fun e w' => e = .returned (.int .u64 (d : Int)) ∧ w' = W) := fun W => by have q := digest_of W h hh t (by omega); rwa [hd] at q
  have HR : Hid (∀ W, Calls Tryz.prog 24 #[.int .u64 (h : Int), .string t] W fun e w' => e = .returned (.int .u64 (d : Int)) ∧ w' = W) := fun W => by have q := rdigest_of W h hh t (by omega); rwa [hd] at q
  have HD1 : Hid (∀ W, Calls Tryz.prog 23 #[.int .u64 (h : Int), .string s] W fun e w' => e = .returned (.int .u64 (d1 : Int)) ∧ w' = W) := fun W => by have q := digest_of W h hh s hs; rwa [hd1] at q
  have HD2 : Hid (∀ W, Calls Tryz.prog 23 #[.int .u64 (d1 : Int), .string m] W fun e w' => e = .returned (.int .u64 (d : Int)) ∧ w' = W) := fun W => by have q := digest_of W d1 hd1l m hm; rwa [hd2] at q
  have HT := Lib.hid hd
  have htb : t.size ≤ 4000 := by omega
  have HTS := Lib.hid hts
  clear hd hd1 hd2 htl hd1l ht hts
  by_cases h3 : s.size = 0
  · go_enter Tryz.func6, Tryz.ntmps6
    go_wp2_with fail
    refine (HD.out _).mono ?_
    rintro e w9 ⟨rfl, rfl⟩
    go_wp2_with fail
    refine (HR.out _).mono ?_
    rintro e w9 ⟨rfl, rfl⟩
    go_wp2_with fail
    refine (HD1.out _).mono ?_
    rintro e w9 ⟨rfl, rfl⟩
    go_wp2_with fail
    refine (HD2.out _).mono ?_
    rintro e w9 ⟨rfl, rfl⟩
    go_wp2_with fail
    refine (HA.out _ HW0.out).mono ?_
    rintro e V ⟨rfl, hB⟩
    have HB := Lib.hid hB
    clear hB HA HW0
    go_wp2_with fail
    go_ret
    exact ⟨rfl, HB.out⟩
  by_cases h4 : by_ = 0
  · subst h4
    have h3' : ((s.size : Int) == 0) = false := by simpa using h3
    go_enter Tryz.func6, Tryz.ntmps6
    go_wp2_with fail
    refine (HD.out _).mono ?_
    rintro e w9 ⟨rfl, rfl⟩
    go_wp2_with fail
    refine (HR.out _).mono ?_
    rintro e w9 ⟨rfl, rfl⟩
    go_wp2_with fail
    refine (HD1.out _).mono ?_
    rintro e w9 ⟨rfl, rfl⟩
    go_wp2_with fail
    refine (HD2.out _).mono ?_
    rintro e w9 ⟨rfl, rfl⟩
    go_wp2_with fail
    refine (HA.out _ HW0.out).mono ?_
    rintro e V ⟨rfl, hB⟩
    have HB := Lib.hid hB
    clear hB HA HW0
    go_wp2_with fail
    go_ret
    exact ⟨rfl, HB.out⟩
  have htp : 0 < t.size := by have := HTS.out; omega
  clear HTS
  have h3' : ((s.size : Int) == 0) = false := by simpa using h3
  have h4' : (by_ == 0) = false := by simpa using h4
  obtain ⟨k, hk⟩ := Int.eq_ofNat_of_zero_le (show 0 ≤ at_.tmod (t.size : Int) from Int.tmod_nonneg _ hat.1)
  have hkl : k < t.size := by
    have := Int.tmod_lt_of_pos at_ (show (0 : Int) < (t.size : Int) by omega)
    omega
  go_enter Tryz.func6, Tryz.ntmps6
  go_wp2_with fail
  refine (HD.out _).mono ?_
  rintro e w9 ⟨rfl, rfl⟩
  go_wp2_with fail
  refine (HR.out _).mono ?_
  rintro e w9 ⟨rfl, rfl⟩
  go_wp2_with fail
  refine (HD1.out _).mono ?_
  rintro e w9 ⟨rfl, rfl⟩
  go_wp2_with fail
  refine (HD2.out _).mono ?_
  rintro e w9 ⟨rfl, rfl⟩
  clear HD HR HD1 HD2
  have hcv := Lib.run_convert_string_bytes (P := Tryz.prog) w9 9 57 5 t Tryz.underlying9 Tryz.underlying57 Tryz.underlying5
  go_upto_region 9 with fail
  have hB2 := bytes_below w9 5 t
  have hfz := bytes_fz w9 5 t k hkl
  have hcell : ∀ j, j < t.size → (Lib.bytesWorld w9 5 t).cell? ⟨w9.heap.size, j, none⟩ = some (.int .u8 ((t.data.toList.getD j 0).toNat : Int)) := fun j hj => by have := Lib.bytesWorld_cell w9 5 t j hj; simpa using this
  clear hcv
  generalize Lib.bytesWorld w9 5 t = W2 at hB2 hfz hcell ⊢
  generalize grownCap w9 t.size 0 5 = cap
  obtain ⟨c, hc⟩ : ∃ c, t.data.toList.getD k 0 = c := ⟨_, rfl⟩
  have ck := hcell k hkl
  rw [hc] at ck
  have HC := Lib.hid hcell
  have HB2 := Lib.hid hB2
  have hw1 : IntKind.i64.wrap at_ = at_ := IntWalk.i64_in _ (by omega)
  have hw2 : IntKind.i64.wrap (at_.tmod (t.size : Int)) = (k : Int) := by rw [hk]; exact IntWalk.i64_in _ (by omega)
  have hw3 : IntKind.i64.wrap (at_ % (t.size : Int)) = (k : Int) := by rw [← Int.tmod_eq_emod_of_nonneg hat.1, hk]; exact IntWalk.i64_in _ (by omega)
  have hk2 : at_ % (t.size : Int) = (k : Int) := by rw [← Int.tmod_eq_emod_of_nonneg hat.1, hk]
  have hkk : (k : Int) < (t.size : Int) := by omega
  have ht0 : ¬(t.size : Int) = 0 := by omega
  obtain ⟨y, hy⟩ := Int.eq_ofNat_of_zero_le hby.1
  subst hy
  have hx : bits .xor .u8 ((c.toNat : Nat) : Int) ((y : Nat) : Int) = ((c.toNat ^^^ y : Nat) : Int) := u8_xor_nat _ _ (UInt8.toNat_lt c) (by omega)
  clear hcell hB2
  go_upto_region 10 with fail
  obtain ⟨W3, hW3⟩ : ∃ W3, W2.setCell ⟨w9.heap.size, k, none⟩ (.int .u8 ((c.toNat ^^^ y : Nat) : Int)) = W3 := ⟨_, rfl⟩
  rw [hW3]
  obtain ⟨x, hxx⟩ : ∃ x : UInt8, UInt8.ofNat (c.toNat ^^^ y) = x := ⟨_, rfl⟩
  have hxl : c.toNat ^^^ y < 256 := Nat.xor_lt_two_pow (n := 8) (UInt8.toNat_lt c) (by omega)
  have hxn : x.toNat = c.toNat ^^^ y := by rw [← hxx, UInt8.toNat_ofNat']; exact Nat.mod_eq_of_lt hxl
  have htl : t.data.toList.length = t.size := by simp
  have hck : t.data.toList[k]'(by omega) = c := by rw [← hc, List.getD_eq_getElem?_getD, List.getElem?_eq_getElem (by omega)]; rfl
  have hne : t.data.toList[k]'(by omega) ≠ x := fun e => by
    have e2 : c.toNat ^^^ 0 = c.toNat ^^^ y := by rw [← hxn, ← e, hck, Nat.xor_zero]
    have := xor_left_inj e2
    omega
  obtain ⟨u, hu⟩ : ∃ u : ByteArray, ⟨(t.data.toList.set k x).toArray⟩ = u := ⟨_, rfl⟩
  have hus : u.size = t.size := by rw [← hu]; show (t.data.toList.set k x).toArray.size = _; simp
  have hul : u.data.toList = t.data.toList.set k x := by rw [← hu]
  have hB3 : Below w9.heap.size w9 W3 := by rw [← hW3]; exact HB2.out.setCell (Nat.le_refl _) _
  have hcv := Lib.run_convert_whole (P := Tryz.prog) W3 57 5 9 Tryz.underlying57 Tryz.underlying5 Tryz.underlying9 w9.heap.size 0 u (fun j hj => by
    have hjt : j < t.size := by omega
    have eu : u[j] = (t.data.toList.set k x)[j]'(by rw [List.length_set]; omega) := by
      have : u.data.toList[j]'(by rw [hul, List.length_set]; omega) = (t.data.toList.set k x)[j]'(by rw [List.length_set]; omega) := by simp only [hul]
      rw [← this]
      simp [ByteArray.getElem_eq_getElem_data]
    rw [Nat.zero_add, eu, ← hW3, List.getElem_set]
    by_cases e : j = k
    · subst e
      rw [if_pos rfl, World.cell?_setCell_same _ _ _ ck, hxn]
    · rw [if_neg (Ne.symm e), World.cell?_setCell_other _ _ _ _ (by simp_all), HC.out j hjt]
      congr 4
      rw [List.getD_eq_getElem?_getD, List.getElem?_eq_getElem (by omega)]
      rfl) cap
  rw [hus] at hcv
  have HE : Hid (∀ W, Calls Tryz.prog 23 #[.int .u64 (h : Int), .string u] W fun e w' => e = .returned (.int .u64 ((dig h u.data.toList : Nat) : Int)) ∧ w' = W) := fun W => digest_of W h hh u (by omega)
  obtain ⟨z, hz⟩ : ∃ z, dig h u.data.toList = z := ⟨_, rfl⟩
  have hzd : z ≠ d := by
    rw [← hz, ← HT.out, hul]
    exact dig_set hh _ k (by omega) x hne
  rw [hz] at HE
  have hzb : ((z : Int) == (d : Int)) = false := by
    rw [beq_eq_false_iff_ne]
    omega
  have hzn : ¬ z = d := hzd
  have HZ : Hid (((z : Int) != (d : Int)) = true) := by show _ = _; rw [bne, hzb]; rfl
  have HB3 := Lib.hid hB3
  clear hW3 hxx hxl hxn htl hck hne hu hul hB3 hz hzd HT HC HB2 hx ck hc hfz hw1 hw2 hw3 hk2 hk hus
  go_wp2_with fail
  refine (HE.out _).mono ?_
  rintro e w8 ⟨rfl, rfl⟩
  clear HE
  go_wp2_with fail
  refine (HA.out _ HB3.out).mono ?_
  rintro e V ⟨rfl, hB⟩
  have HB := Lib.hid (low_trans HB3.out hB)
  clear hB HA HW0 HB3
  go_wp2_with fail
  go_ret
  exact ⟨congrArg (fun b => Ending.returned (.bool b)) HZ.out, HB.out⟩
end Go.Proofs.YtmdniebedflpbaaGreatDoor
