/-
  WALKS: growth: Alone of the program and of the reference.
-/
import Derived.Test.YtlbffdgojmjijaaGreatDoorGsD
namespace Go.Proofs.YtlbffdgojmjijaaGreatDoor
open Go.RowKit

/-- The error of Alone. -/
def alE (p q : Int) (f : Nat → Int) (n : Nat) : Int := if (0 ≤ p ∧ p ≤ 24) ∧ 0 ≤ q ∧ q ≤ 24 then first (pErr p q f) n else 4
/-- The indices that Alone tells. -/
def als (E : Int) (f : Nat → Int) (n side : Nat) (p : Int) : List Nat := if E = 0 then lone f n side p.toNat else []
/-- A list of indices, as a slice. -/
def lf (l : List Nat) (i : Nat) : Int := (l.getD i 0 : Nat)
def AlEnd (w : World) (p q : Int) (f : Nat → Int) (n : Nat) (e : Ending) (w' : World) : Prop :=
  ∃ x c1 y c2, e = .returned (.tuple #[.slice x (als (alE p q f n) f n 0 p).length c1, .slice y (als (alE p q f n) f n 1 q).length c2, .int .i64 (alE p q f n)]) ∧
    Sl w' 1 x (als (alE p q f n) f n 0 p).length (lf (als (alE p q f n) f n 0 p)) ∧ Sl w' 1 y (als (alE p q f n) f n 1 q).length (lf (als (alE p q f n) f n 1 q)) ∧ Below w.heap.size w w'
theorem alEnd_bad {w w' : World} {p q : Int} {f : Nat → Int} {n : Nat} {E : Int} (hE : alE p q f n = E) (h0 : E ≠ 0) (hB : Below w.heap.size w w') : AlEnd w p q f n (.returned (.tuple #[.slice none 0 0, .slice none 0 0, .int .i64 E])) w' := by
  have e1 : ∀ s r, als (alE p q f n) f n s r = [] := fun s r => by unfold als; rw [if_neg (by rw [hE]; exact h0)]
  refine ⟨none, 0, none, 0, ?_, ?_, ?_, hB⟩
  · rw [e1, e1, hE]; rfl
  · rw [e1]; intro h; exact absurd h (by decide)
  · rw [e1]; intro h; exact absurd h (by decide)
theorem sl_keep1 {w W : World} {x : Option Addr} {n : Nat} {f : Nat → Int} (h : Sl w 1 x n f) (hB : Below w.heap.size w W) : Sl W 1 x n f := h.keep (by decide) hB
set_option maxRecDepth 100000 in
set_option maxHeartbeats 8000000 in
theorem gAlone_of (w : World) (p q : Int) (a : Option Addr) (n c : Nat) (f : Nat → Int) (hn : n ≤ 40) (hS : Sl w 2 a n f) :
    Calls Tryz.prog 19 #[.int .i64 p, .int .i64 q, .slice a n c] w (AlEnd w p q f n) := by
  have HI : Hid (∀ b w x lo hi, b = decide (lo ≤ x ∧ x ≤ hi) → Calls Tryz.prog 47 #[.int .i64 x, .int .i64 lo, .int .i64 hi] w fun e w' => e = .returned (.bool b) ∧ w' = w) := fun b w x lo hi h => gwithin_of b w x lo hi h
  have HS := Lib.hid hS
  clear hS
  go_enter Tryz.func19, Tryz.ntmps19
  go_wp2_with fail
  by_cases hp : 0 ≤ p ∧ p ≤ 24
  rotate_left
  · refine (HI.out false _ _ _ _ (by symm; rw [decide_eq_false_iff_not]; exact hp)).mono ?_
    rintro e w9 ⟨rfl, rfl⟩
    have HE : Hid (alE p q f n = 4) := by unfold alE; rw [if_neg (fun e => hp e.1)]; exact Lib.hid rfl
    go_wp2_with fail
    exact bodyPost_ret (v := .tuple #[.slice none 0 0, .slice none 0 0, .int .i64 4]) (by simp [results, Tryz.f19, go_sem]) rfl (alEnd_bad HE.out (by decide) (Below.refl _ _))
  refine (HI.out true _ _ _ _ (by symm; rw [decide_eq_true_iff]; exact hp)).mono ?_
  rintro e w9 ⟨rfl, rfl⟩
  go_wp2_with fail
  by_cases hq : 0 ≤ q ∧ q ≤ 24
  rotate_left
  · refine (HI.out false _ _ _ _ (by symm; rw [decide_eq_false_iff_not]; exact hq)).mono ?_
    rintro e w8 ⟨rfl, rfl⟩
    have HE : Hid (alE p q f n = 4) := by unfold alE; rw [if_neg (fun e => hq e.2)]; exact Lib.hid rfl
    go_wp2_with fail
    exact bodyPost_ret (v := .tuple #[.slice none 0 0, .slice none 0 0, .int .i64 4]) (by simp [results, Tryz.f19, go_sem]) rfl (alEnd_bad HE.out (by decide) (Below.refl _ _))
  refine (HI.out true _ _ _ _ (by symm; rw [decide_eq_true_iff]; exact hq)).mono ?_
  rintro e w8 ⟨rfl, rfl⟩
  go_wp2_with fail
  have hE : alE p q f n = first (pErr p q f) n := by unfold alE; rw [if_pos ⟨hp, hq⟩]
  refine (gcheckPairs_of w8 a n c f p q hp hq (by unfold maxLen; omega) HS.out).mono ?_
  rintro e W1 ⟨rfl, hb⟩
  have HB1 := Lib.hid hb
  have HS1 := Lib.hid (HS.out.keep (by decide) hb)
  rw [← hE]
  clear hb hE
  obtain ⟨E, hE⟩ : ∃ E, alE p q f n = E := ⟨_, rfl⟩
  rw [hE]
  by_cases h0 : E = 0
  rotate_left
  · have HE := Lib.hid hE
    clear hE
    go_wp2_with fail
    exact bodyPost_ret (v := .tuple #[.slice none 0 0, .slice none 0 0, .int .i64 E]) (by simp [results, Tryz.f19, go_sem]) rfl (alEnd_bad HE.out h0 HB1.out)
  subst h0
  obtain ⟨P, rfl⟩ := Int.eq_ofNat_of_zero_le hp.1
  obtain ⟨Q, rfl⟩ := Int.eq_ofNat_of_zero_le hq.1
  have e1 : ∀ s (r : Nat), als (alE (P : Int) (Q : Int) f n) f n s (r : Int) = lone f n s r := fun s r => by unfold als; rw [if_pos hE, Int.toNat_natCast]
  have HE := Lib.hid hE
  have HL := Lib.hid e1
  clear hE e1
  go_wp2_with fail
  refine (alone_of W1 P 0 n c a f (by omega) (by decide) (by omega) HS1.out).mono ?_
  rintro e W2 ⟨x, c1, rfl, hx, hb⟩
  have HB2 := Lib.hid (low_trans HB1.out hb)
  have HS2 := Lib.hid (HS1.out.keep (by decide) hb)
  have HX := Lib.hid hx
  clear hb hx
  go_wp2_with fail
  refine (alone_of W2 Q 1 n c a f (by omega) (by decide) (by omega) HS2.out).mono ?_
  rintro e W3 ⟨y, c2, rfl, hy, hb⟩
  have HB3 := Lib.hid (low_trans HB2.out hb)
  have HX3 := Lib.hid (sl_keep1 HX.out hb)
  have HY3 := Lib.hid hy
  clear hb hy
  go_wp2_with fail
  refine bodyPost_ret (v := .tuple #[.slice x (lone f n 0 P).length c1, .slice y (lone f n 1 Q).length c2, .int .i64 0]) (by simp [results, Tryz.f19, go_sem]) rfl ?_
  refine ⟨x, c1, y, c2, ?_, ?_, ?_, HB3.out⟩
  · rw [HL.out, HL.out, HE.out]
  · rw [HL.out]; exact HX3.out
  · rw [HL.out]; exact HY3.out
set_option maxRecDepth 100000 in
set_option maxHeartbeats 8000000 in
theorem hAlone_of (w : World) (p q : Int) (a : Option Addr) (n c : Nat) (f : Nat → Int) (hn : n ≤ 40) (hS : Sl w 2 a n f) :
    Calls Tryz.prog 20 #[.int .i64 p, .int .i64 q, .slice a n c] w (AlEnd w p q f n) := by
  have HI : Hid (∀ b w x lo hi, b = decide (lo ≤ x ∧ x ≤ hi) → Calls Tryz.prog 34 #[.int .i64 x, .int .i64 lo, .int .i64 hi] w fun e w' => e = .returned (.bool b) ∧ w' = w) := fun b w x lo hi h => hwithin_of b w x lo hi h
  have HS := Lib.hid hS
  clear hS
  go_enter Tryz.func20, Tryz.ntmps20
  go_wp2_with fail
  by_cases hp : 0 ≤ p ∧ p ≤ 24
  rotate_left
  · refine (HI.out false _ _ _ _ (by symm; rw [decide_eq_false_iff_not]; exact hp)).mono ?_
    rintro e w9 ⟨rfl, rfl⟩
    have HE : Hid (alE p q f n = 4) := by unfold alE; rw [if_neg (fun e => hp e.1)]; exact Lib.hid rfl
    go_wp2_with fail
    exact bodyPost_ret (v := .tuple #[.slice none 0 0, .slice none 0 0, .int .i64 4]) (by simp [results, Tryz.f20, go_sem]) rfl (alEnd_bad HE.out (by decide) (Below.refl _ _))
  refine (HI.out true _ _ _ _ (by symm; rw [decide_eq_true_iff]; exact hp)).mono ?_
  rintro e w9 ⟨rfl, rfl⟩
  go_wp2_with fail
  by_cases hq : 0 ≤ q ∧ q ≤ 24
  rotate_left
  · refine (HI.out false _ _ _ _ (by symm; rw [decide_eq_false_iff_not]; exact hq)).mono ?_
    rintro e w8 ⟨rfl, rfl⟩
    have HE : Hid (alE p q f n = 4) := by unfold alE; rw [if_neg (fun e => hq e.2)]; exact Lib.hid rfl
    go_wp2_with fail
    exact bodyPost_ret (v := .tuple #[.slice none 0 0, .slice none 0 0, .int .i64 4]) (by simp [results, Tryz.f20, go_sem]) rfl (alEnd_bad HE.out (by decide) (Below.refl _ _))
  refine (HI.out true _ _ _ _ (by symm; rw [decide_eq_true_iff]; exact hq)).mono ?_
  rintro e w8 ⟨rfl, rfl⟩
  have hE : alE p q f n = first (pErr p q f) n := by unfold alE; rw [if_pos ⟨hp, hq⟩]
  have HE := Lib.hid hE
  have HR0 : Hid (Below w8.heap.size w8 w8) := Below.refl _ _
  have wp1 : IntKind.i64.wrap (p - 1) = p - 1 := IntWalk.i64_in _ (by omega)
  have wq1 : IntKind.i64.wrap (q - 1) = q - 1 := IntWalk.i64_in _ (by omega)
  clear hE
  go_wp2_with fail
  generalize hwr : w8 = W0 at *
  clear hwr
  go_loopw [9] (fun vi wr => ∃ i : Nat, i ≤ n ∧ vi = .int .i64 i ∧ Hid (∀ j, j < i → pErr p q f j = 0) ∧ Hid (Below W0.heap.size W0 wr)) (fun vi _ => n - (intOf vi).toNat)
  case atStart => exact ⟨0, by omega, rfl, fun j hj => by omega, HR0.out⟩
  case round =>
    obtain ⟨k, hk, rfl, HZ, HB⟩ := hrel
    by_cases hlt : k < n
    · have hS2 := HS.out.keep (by decide) HB.out
      obtain ⟨b, o, rfl, hI⟩ := hS2 (by omega)
      have d0 := hI (k * 2) (by omega)
      have d1 := hI.at (k * 2) 1 (by omega)
      have hwi : IntKind.i64.wrap ((k : Int) + 1) = (k : Int) + 1 := IntWalk.i64_in _ (by omega)
      have hkn : (k : Int) < (n : Int) := by omega
      have HTW : Hid (Calls Tryz.prog 44 #[.slice (some ⟨b, o, none⟩) n c, .int .i64 (k : Int)] wr fun e w' => e = .returned (.bool (tw f k)) ∧ Below wr.heap.size wr w') := htwice_of wr k n c _ f hlt (by omega) hS2
      have HV : Hid (∀ v, pErr p q f k = v → v ≠ 0 → alE p q f n = v) := fun v hv h0 => by rw [HE.out, ← hv]; exact first_at HZ.out (by rw [hv]; exact h0) hlt
      have HP : Hid (pErr p q f k = if ¬((0 ≤ f (k * 2) ∧ f (k * 2) < p) ∧ 0 ≤ f (k * 2 + 1) ∧ f (k * 2 + 1) < q) then 1 else if tw f k then 8 else 0) := Lib.hid rfl
      clear hI hS2
      generalize f (k * 2) = x0 at d0 HP
      generalize f (k * 2 + 1) = x1 at d1 HP
      go_wp2_with fail
      by_cases h1 : 0 ≤ x0 ∧ x0 ≤ p - 1
      rotate_left
      · refine (HI.out false _ _ _ _ (by symm; rw [decide_eq_false_iff_not]; exact h1)).mono ?_
        rintro e w8 ⟨rfl, rfl⟩
        have HE1 := Lib.hid (HV.out 1 (by rw [HP.out, if_pos (fun e => h1 ⟨e.1.1, by have := e.1.2; omega⟩)]) (by decide))
        go_wp2_with fail
        (try simp only [Exit.inBlock, Exit.then])
        exact bodyPost_ret (v := .tuple #[.slice none 0 0, .slice none 0 0, .int .i64 1]) (by simp [results, Tryz.f20, go_sem]) rfl (alEnd_bad HE1.out (by decide) HB.out)
      refine (HI.out true _ _ _ _ (by symm; rw [decide_eq_true_iff]; exact h1)).mono ?_
      rintro e w8 ⟨rfl, rfl⟩
      go_wp2_with fail
      by_cases h2 : 0 ≤ x1 ∧ x1 ≤ q - 1
      rotate_left
      · refine (HI.out false _ _ _ _ (by symm; rw [decide_eq_false_iff_not]; exact h2)).mono ?_
        rintro e w8 ⟨rfl, rfl⟩
        have HE1 := Lib.hid (HV.out 1 (by rw [HP.out, if_pos (fun e => h2 ⟨e.2.1, by have := e.2.2; omega⟩)]) (by decide))
        go_wp2_with fail
        (try simp only [Exit.inBlock, Exit.then])
        exact bodyPost_ret (v := .tuple #[.slice none 0 0, .slice none 0 0, .int .i64 1]) (by simp [results, Tryz.f20, go_sem]) rfl (alEnd_bad HE1.out (by decide) HB.out)
      refine (HI.out true _ _ _ _ (by symm; rw [decide_eq_true_iff]; exact h2)).mono ?_
      rintro e w8 ⟨rfl, rfl⟩
      have hin : ¬¬((0 ≤ x0 ∧ x0 < p) ∧ 0 ≤ x1 ∧ x1 < q) := fun e => e ⟨⟨h1.1, by omega⟩, h2.1, by omega⟩
      go_wp2_with fail
      refine HTW.out.mono ?_
      rintro e W2 ⟨rfl, hb⟩
      have HB2 := Lib.hid (low_trans HB.out hb)
      clear hb HTW
      generalize tw f k = z at HP ⊢
      cases z with
      | true =>
        have HE1 := Lib.hid (HV.out 8 (by rw [HP.out, if_neg hin]; rfl) (by decide))
        go_wp2_with fail
        (try simp only [Exit.inBlock, Exit.then])
        exact bodyPost_ret (v := .tuple #[.slice none 0 0, .slice none 0 0, .int .i64 8]) (by simp [results, Tryz.f20, go_sem]) rfl (alEnd_bad HE1.out (by decide) HB2.out)
      | false =>
        have hz : pErr p q f k = 0 := by rw [HP.out, if_neg hin]; rfl
        go_wp2_with fail
        exact ⟨⟨k + 1, by omega, by go_num, fun j hj => by
          rcases Nat.lt_or_ge j k with h | h
          · exact HZ.out j h
          · obtain rfl : j = k := by omega
            exact hz, HB2.out⟩, by simp [intOf]; omega⟩
    · obtain rfl : k = n := by omega
      have hE0 : alE p q f k = 0 := by rw [HE.out]; exact first_zero HZ.out
      obtain ⟨P, rfl⟩ := Int.eq_ofNat_of_zero_le hp.1
      obtain ⟨Q, rfl⟩ := Int.eq_ofNat_of_zero_le hq.1
      have e1 : ∀ s (r : Nat), als (alE (P : Int) (Q : Int) f k) f k s (r : Int) = lone f k s r := fun s r => by unfold als; rw [if_pos hE0, Int.toNat_natCast]
      have HE0 := Lib.hid hE0
      have HL := Lib.hid e1
      have HSr := Lib.hid (HS.out.keep (by decide) HB.out)
      clear hE0 e1 HE HZ HS
      obtain ⟨i0, hi, hz0, hz1, hz2⟩ := info_parts x_intv
      go_wp2_with fail
      generalize hwq : wr = Wr at *
      clear hwq
      go_loopw [10, 12] (fun v vi w1 => ∃ i : Nat, i ≤ P ∧ vi = .int .i64 i ∧ Hid (w1.ownsRow Wr.heap.size 3 1 v (lone f k 0 i).length (nrow (lone f k 0 i))) ∧ Hid (Below Wr.heap.size Wr w1)) (fun _ vi _ => P - (intOf vi).toNat)
      case atStart => exact ⟨0, by omega, rfl, ⟨rfl, .inl ⟨rfl, rfl⟩⟩, Below.refl _ _⟩
      case round =>
        obtain ⟨i, hik, rfl, HR, HB1⟩ := hrel
        by_cases hlt : i < P
        · have hC := hhas_of wr 0 i k c a f (by decide) (by omega) (HSr.out.keep (by decide) HB1.out)
          have HLs := Lib.hid (lone_succ f k 0 i)
          have HLn := Lib.hid (lone_len f k 0 i)
          generalize hasP f k 0 i = q at hC HLs
          have HC := Lib.hid hC
          clear hC
          go_wp2_with fail
          refine HC.out.mono ?_
          rintro e w2 ⟨rfl, rfl⟩
          clear HC
          cases q with
          | true =>
            go_wp2_with fail
            refine ⟨⟨i + 1, by omega, by go_num, ?_, HB1.out⟩, by simp [intOf]; omega⟩
            have hL := HLs.out
            simp only [if_true, List.append_nil] at hL
            rw [hL]
            exact HR.out
          | false =>
            have hLn := HLn.out
            have hsz := HB1.out.size
            go_wp2_with (at_builtin; refine wpList_append_own _ rfl _ _ 39 rfl Wr.heap.size 3 i0 (.int .i64 0) 1 8 Tryz.underlying39 hi hz0 hz1 hz2 rfl (by decide) _ (lone f k 0 i).length _ rfl (HR.out.alloc _) ⟨w2.heap.size, 0, none⟩ 1 1 [.int .i64 (i : Int)] rfl rfl (cells_one w2 (.int .i64 (i : Int)) 3) (by simp [Value.oneCell']) (by unfold maxLen; omega) (by omega) (by simp; omega) ?_; intro v' w3 hown' hgrow _)
            refine ⟨⟨i + 1, by omega, by go_num, ?_, (HB1.out.alloc HB1.out.size _).grown hgrow (by have := HB1.out.size; simp; omega) (fun j hj => (HR.out.lt j hj).1)⟩, by simp [intOf]; omega⟩
            have hL := HLs.out
            simp only [Bool.false_eq_true, if_false] at hL
            rw [hL, List.length_append, List.length_singleton]
            unfold nrow at hown' ⊢
            rw [List.map_append]
            exact hown'
        · obtain rfl : i = P := by omega
          have HS2 := Lib.hid (HSr.out.keep (by decide) HB1.out)
          have HB2 := Lib.hid (HB.out.trans (HB1.out.mono HB.out.size))
          clear HSr HB HB1
          go_wp2_with fail
          generalize hwq : wr = W2 at *
          clear hwq
          go_loopw [11, 13] (fun v vi w1 => ∃ j : Nat, j ≤ Q ∧ vi = .int .i64 j ∧ Hid (w1.ownsRow W2.heap.size 3 1 v (lone f k 1 j).length (nrow (lone f k 1 j))) ∧ Hid (Below W2.heap.size W2 w1)) (fun _ vi _ => Q - (intOf vi).toNat)
          case atStart => exact ⟨0, by omega, rfl, ⟨rfl, .inl ⟨rfl, rfl⟩⟩, Below.refl _ _⟩
          case round =>
            obtain ⟨j, hjk, rfl, HR3, HB3⟩ := hrel
            by_cases hlt : j < Q
            · have hC := hhas_of wr 1 j k c a f (by decide) (by omega) (HS2.out.keep (by decide) HB3.out)
              have HLs := Lib.hid (lone_succ f k 1 j)
              have HLn := Lib.hid (lone_len f k 1 j)
              generalize hasP f k 1 j = q at hC HLs
              have HC := Lib.hid hC
              clear hC
              go_wp2_with fail
              refine HC.out.mono ?_
              rintro e w2 ⟨rfl, rfl⟩
              clear HC
              cases q with
              | true =>
                go_wp2_with fail
                refine ⟨⟨j + 1, by omega, by go_num, ?_, HB3.out⟩, by simp [intOf]; omega⟩
                have hL := HLs.out
                simp only [if_true, List.append_nil] at hL
                rw [hL]
                exact HR3.out
              | false =>
                have hLn := HLn.out
                have hsz := HB3.out.size
                go_wp2_with (at_builtin; refine wpList_append_own _ rfl _ _ 39 rfl W2.heap.size 3 i0 (.int .i64 0) 1 8 Tryz.underlying39 hi hz0 hz1 hz2 rfl (by decide) _ (lone f k 1 j).length _ rfl (HR3.out.alloc _) ⟨w2.heap.size, 0, none⟩ 1 1 [.int .i64 (j : Int)] rfl rfl (cells_one w2 (.int .i64 (j : Int)) 3) (by simp [Value.oneCell']) (by unfold maxLen; omega) (by omega) (by simp; omega) ?_; intro v' w3 hown' hgrow _)
                refine ⟨⟨j + 1, by omega, by go_num, ?_, (HB3.out.alloc HB3.out.size _).grown hgrow (by have := HB3.out.size; simp; omega) (fun j hj => (HR3.out.lt j hj).1)⟩, by simp [intOf]; omega⟩
                have hL := HLs.out
                simp only [Bool.false_eq_true, if_false] at hL
                rw [hL, List.length_append, List.length_singleton]
                unfold nrow at hown' ⊢
                rw [List.map_append]
                exact hown'
            · obtain rfl : j = Q := by omega
              obtain ⟨x, c1, rfl, hx⟩ := own_Sl1 (own_below HR.out HB3.out)
              obtain ⟨y, c2, rfl, hy⟩ := own_Sl1 HR3.out
              have HX := Lib.hid hx
              have HY := Lib.hid hy
              clear hx hy
              go_wp2_with fail
              (try simp only [Exit.inBlock, Exit.then])
              refine bodyPost_ret (v := .tuple #[.slice x (lone f k 0 i).length c1, .slice y (lone f k 1 j).length c2, .int .i64 0]) (by simp [results, Tryz.f20, go_sem]) rfl ?_
              refine ⟨x, c1, y, c2, ?_, ?_, ?_, HB2.out.trans (HB3.out.mono HB2.out.size)⟩
              · rw [HL.out, HL.out, HE0.out]
              · rw [HL.out]; exact HX.out
              · rw [HL.out]; exact HY.out
end Go.Proofs.YtlbffdgojmjijaaGreatDoor
