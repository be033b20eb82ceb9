/-
  WALKS: the round of bounds that clash; Clash, with its errors; whether a chain proves.
-/
import Derived.Test.YtonlamkpehakdaaPyI
import Derived.Test.YtonlamkpehakdaaPyJ
import Derived.Maps.OwnOps
import Derived.Maps.Views
namespace Go.Proofs.Ytonlamkpehakdaa
open Go.RowKit Go.Maps

/-- A chain that goes round and allows less than 0, with no event twice as a From. -/
def RoundL (E n : Nat) (f : Nat → Int) (c : List Nat) : Prop := c ≠ [] ∧ c.length ≤ E ∧ wt f c < 0 ∧ (c.map (bF f)).Nodup ∧ ∃ u, u < E ∧ isWk f n u u c

set_option maxRecDepth 100000 in
set_option maxHeartbeats 4000000 in
theorem round_yes (w : World) (f : Nat → Int) (E len c : Nat) (a : Option Addr) (hf : BOk E len f) (hS : Sl w 3 a len f) (hc : 0 ≤ clash f len E) :
    Calls Try.prog 73 #[.int .i64 (E : Int), .slice a len c] w fun e W' => ∃ vv l, e = .returned vv ∧ RoundL E len f l.reverse ∧ W'.ownsRow w.heap.size 3 1 vv l.length (lrow l) ∧ Below w.heap.size w W' := by
  obtain ⟨v, es, u, hcl, hv, hbk, hes, hu, l, hend, hll, hnd, hwt⟩ := clash_back hf hc
  have hwk := hend.1.wk
  have hne := hend.2.1
  have HL := Lib.hid (show RoundL E len f l.reverse from ⟨by simpa using hne, by rw [List.length_reverse]; exact hll, by rw [wt_reverse]; exact hwt, by rw [List.map_reverse]; exact List.pairwise_reverse.2 (hnd.imp fun h => Ne.symm h), u, hu, hwk⟩)
  have HEn := Lib.hid hend
  have HBk := Lib.hid hbk
  have HF := Lib.hid hf
  have HS := Lib.hid hS
  have hl := hf.1
  have HCl : Hid ((relS f len E (Pt.all E) (-1)).2 = (v : Int)) := hcl
  clear hf hS hc hcl hbk hend hwk hne hwt hnd
  have hz := paths_zero
  go_enter Try.func73, Try.ntmps73
  go_wp2_with fail
  go_loopw [9] (fun i wr => ∃ k : Nat, k ≤ E ∧ i = .int .i64 k ∧ Hid (PtAt wr w.heap.size 130 (Pt.all k)) ∧ Hid (Below w.heap.size w wr)) (fun i _ => E - (intOf i).toNat)
  case atStart => exact ⟨0, by omega, rfl, by rw [Pt.all_zero]; exact PtAt.new w _ _, (Below.refl _ w).alloc (Nat.le_refl _) _⟩
  case round =>
    obtain ⟨k, hk, rfl, HK, HB⟩ := hrel
    by_cases hlt : k < E
    · have g0 := HK.out.kn (k := k) (by omega)
      have g1 := HK.out.la (k := k) (by omega)
      have z0 := HK.out.fz k
      have z1 := HK.out.fz (128 + k)
      have hk64 : (k : Int) < 64 := by omega
      go_wp2_with fail
      have hP := (HK.out.set_kn (k := k) (by omega) true).set_la (k := k) (by omega) (-1)
      rw [Pt.all_succ] at hP
      exact ⟨⟨k + 1, by omega, by go_num, hP, (HB.out.setCell (p := ⟨w.heap.size, k, none⟩) (Nat.le_refl _) (.bool true)).setCell (p := ⟨w.heap.size, 128 + k, none⟩) (Nat.le_refl _) (.int .i64 (-1))⟩, by simp [intOf]; omega⟩
    · obtain rfl : k = E := by omega
      go_wp2_with fail
      refine (relax_of wr w.heap.size (Pt.all k) f k len c a HF.out (fun i => by simp [Pt.all]) HK.out (HS.out.keep (by decide) HB.out) (fun b o hp e => ?_)).mono ?_
      · obtain ⟨b2, o2, e2, hI⟩ := HS.out hp
        rw [e] at e2
        cases e2
        have := hI.lt (by omega)
        omega
      rintro e W2 ⟨rfl, hP2, hX2⟩
      have hB2 : Below w.heap.size w W2 := HB.out.trans ⟨hX2.os, hX2.tape, hX2.output, hX2.size, fun j hj => hX2.block j (by have := HK.out.lt; omega) (by omega)⟩
      have HP2 := Lib.hid hP2
      have HB2 := Lib.hid hB2
      rw [HCl.out]
      clear hP2 hX2 hB2 HK HB
      generalize (relS f len k (Pt.all k) (-1)).1 = q at *
      go_wp2_with fail
      go_loopw [7, 25] (fun vat vi wr' => ∃ j x : Nat, j ≤ k ∧ vi = .int .i64 j ∧ vat = .int .i64 x ∧ Hid (Bk f len q v (es.take j) x) ∧ Hid (wr' = W2)) (fun _ vi _ => k - (intOf vi).toNat)
      case atStart => exact ⟨0, v, by omega, rfl, rfl, rfl, rfl⟩
      case round =>
        obtain ⟨j, x, hj, rfl, rfl, HB, HW⟩ := hrel
        by_cases hlt2 : j < k
        · have hxE : x < k := Bk.lt HF.out _ hv HB.out
          obtain ⟨y, h1, h2⟩ := HBk.out.split j
          obtain rfl := Bk.det _ HB.out h1
          cases hd : es.drop j with
          | nil =>
            have := congrArg List.length hd
            simp at this
            omega
          | cons i r =>
            rw [hd] at h2
            have h3 : es[j]? = some i := by
              have := congrArg (·[0]?) hd
              simpa using this
            have e1 : es.take (j + 1) = es.take j ++ [i] := by
              rw [List.take_add_one, h3]
              rfl
            have hnew : Bk f len q v (es.take (j + 1)) (bF f i) := by rw [e1]; exact (Bk.append _ _ _ _).2 ⟨_, h1, h2.1, h2.2.1, h2.2.2.1, rfl⟩
            have hi := h2.2.1
            have hla := h2.1
            obtain ⟨b, o, rfl, hI⟩ := HS.out (by omega)
            have d0 : wr.cell? ⟨b, o + i * 3, none⟩ = some (.int .i64 (f (i * 3))) := by rw [HW.out]; exact (hI.keep HB2.out (hI.lt (by omega))) (i * 3) (by omega)
            rw [(bF_eq HF.out hi).1] at d0
            have c1 : wr.cell? ⟨w.heap.size, 128 + x, none⟩ = some (.int .i64 (q.la x)) := by rw [HW.out]; exact HP2.out.la (k := x) (by omega)
            rw [hla] at c1
            have hx64 : (x : Int) < 64 := by omega
            have hin : (i : Int) < len := by omega
            have HNw := Lib.hid hnew
            clear hI hnew hla h2 h1 e1 h3 hd
            go_wp2_with fail
            exact ⟨⟨j + 1, bF f i, by omega, by go_num, rfl, HNw.out, HW.out⟩, by simp [intOf]; omega⟩
        · obtain rfl : j = k := by omega
          have hB := HB.out
          rw [List.take_of_length_le (by omega)] at hB
          obtain rfl : x = u := Bk.det _ hB HBk.out
          clear hB
          go_wp2_with fail
          refine (back_of _ w.heap.size q f j len c a x x l HF.out hu (by omega) HEn.out (by rw [HW.out]; exact HP2.out) (by rw [HW.out]; exact HS.out.keep (by decide) HB2.out)).mono ?_
          rintro e W4 ⟨vv, rfl, hO4, hB4⟩
          have HB4 : Hid (Below w.heap.size w W4) := by rw [HW.out] at hB4; exact HB2.out.trans (hB4.mono HB2.out.size)
          have HO4 := Lib.hid (own_base hO4 (by rw [HW.out]; exact HB2.out.size))
          clear hO4 hB4
          go_wp2_with fail
          exact bodyPost_ret (v := vv) (by simp [results, Try.f73, go_sem]) rfl ⟨vv, l, rfl, HL.out, HO4.out, HB4.out⟩

set_option maxRecDepth 100000 in
set_option maxHeartbeats 4000000 in
theorem clash_err (w : World) (f : Nat → Int) (E : Int) (n c : Nat) (a : Option Addr) (hS : Sl w 3 a n f) (he : bchk E n f ≠ 0) :
    Calls Try.prog 35 #[.int .i64 E, .slice a n c] w fun e W' => e = .returned (.tuple #[.slice none 0 0, .int .i64 (bchk E n f)]) ∧ Below w.heap.size w W' := by
  have hne : (bchk E n f == 0) = false := by simpa using he
  have hne2 : (bchk E n f != 0) = true := by simpa using he
  clear he
  go_enter Try.func35, Try.ntmps35
  go_wp2_with (go_at_call 32; refine (check_of _ E a n c f hS).mono ?_; rintro e w2 ⟨rfl, hB⟩)
  exact bodyPost_ret (v := .tuple #[.slice none 0 0, .int .i64 (bchk E n f)]) (by simp [results, Try.f35, go_sem]) rfl ⟨rfl, hB⟩
set_option maxRecDepth 100000 in
set_option maxHeartbeats 4000000 in
theorem clash_found (w : World) (f : Nat → Int) (E n c : Nat) (a : Option Addr) (hf : BOk E n f) (hS : Sl w 3 a n f) (hc : 0 ≤ clash f n E) :
    Calls Try.prog 35 #[.int .i64 (E : Int), .slice a n c] w fun e W' => ∃ vv l, e = .returned (.tuple #[vv, .int .i64 0]) ∧ RoundL E n f l ∧ W'.ownsRow w.heap.size 3 1 vv l.length (lrow l) ∧ Below w.heap.size w W' := by
  have HF := Lib.hid hf
  have HS := Lib.hid hS
  have HC := Lib.hid hc
  have HE := Lib.hid (bchk_of hf)
  have hl := hf.1
  clear hf hS hc
  go_enter Try.func35, Try.ntmps35
  go_wp2_with fail
  refine (check_of w _ a n c f HS.out).mono ?_
  rintro e w2 ⟨rfl, hB2⟩
  rw [HE.out]
  have HB2 := Lib.hid hB2
  clear hB2
  go_wp2_with fail
  refine (round_yes w2 f E n c a HF.out (HS.out.keep (by decide) HB2.out) HC.out).mono ?_
  rintro e w3 ⟨vv, l, rfl, hR, hO3, hB3⟩
  have hlen : 0 < l.length := List.length_pos_iff.2 (by have := hR.1; simpa using this)
  have hll : l.length ≤ E := by have := hR.2.1; rwa [List.length_reverse] at this
  obtain ⟨m', hm'⟩ : ∃ m', l.length = m' + 1 := ⟨l.length - 1, by omega⟩
  have hO3' := hO3
  rw [hm'] at hO3'
  obtain ⟨g, cap, rfl⟩ := ownsRow_succ hO3'
  rw [← hm'] at hO3 ⊢
  have HR := Lib.hid hR
  have HB3 := Lib.hid (HB2.out.trans (hB3.mono HB2.out.size))
  have HO3 := Lib.hid (own_base hO3 HB2.out.size)
  have hl0 : ((l.length : Int) == 0) = false := beq_eq_false_iff_ne.2 (by omega)
  clear hO3 hO3' hB3 hR hm'
  go_wp2_with fail
  refine (revI_own w3 w.heap.size g l.length cap l HO3.out (by omega)).mono ?_
  rintro e w6 ⟨⟨x6, rfl⟩, hO6, hB6⟩
  have HO6 := Lib.hid hO6
  have HB6 := Lib.hid (HB3.out.trans hB6)
  clear hO6 hB6
  go_wp2_with fail
  exact bodyPost_ret (v := .tuple #[.slice (some ⟨g, 0, none⟩) l.length cap, .int .i64 0]) (by simp [results, Try.f35, go_sem]) rfl ⟨_, l.reverse, rfl, HR.out, by rw [List.length_reverse]; exact HO6.out, HB6.out⟩

/-! Whether a chain proves -/
theorem seen_key : Keyed Try.prog 3 := int_keyed Try.underlying3
theorem zero_bool (w : World) : (zeroValue 4).run Try.prog w = .ok (.bool false) w := by kernel_rfl
theorem plain_bool_inv {H : Type} {e : TypeId} (he : Try.prog.underlying e = some .bool) {v : Value} {x : Bool} {ps : List MemPlace} (h : plainElem (H := H) Try.prog e v = some (.lit (.bool x), ps)) : v = .bool x := by
  unfold plainElem at h
  rw [he] at h
  cases v <;> simp at h
  rw [h.1]
/-- The From of a chain's element. -/
theorem from_at {f : Nat → Int} {E n : Nat} (hf : BOk E n f) {l : List Nat} {u v : Nat} (hw : isWk f n u v l) {j : Nat} (hj : j < l.length) : ∃ k, lf l j = ((k : Nat) : Int) ∧ k < n ∧ f (k * 3) = (bF f k : Int) ∧ bF f k < E ∧ (l.map (bF f))[j]? = some (bF f k) := by
  have h1 := isWk_ix l hw j hj
  have h2 : lf l j = ((l[j] : Nat) : Int) := by simp [lf, hj]
  have h3 : l[j] < n := by omega
  have h4 := bF_eq hf h3
  exact ⟨l[j], h2, h3, h4.1, h4.2, by simp [hj]⟩
theorem from_ne {g : List Nat} (h : g.Nodup) {i j x y : Nat} (hij : i < j) (hx : g[i]? = some x) (hy : g[j]? = some y) : y ≠ x := by
  intro e
  subst e
  obtain ⟨hi, e1⟩ := List.getElem?_eq_some_iff.1 hx
  obtain ⟨hj, e2⟩ := List.getElem?_eq_some_iff.1 hy
  exact List.pairwise_iff_getElem.1 h i j hi hj hij (e1.trans e2.symm)
set_option maxRecDepth 100000 in
set_option maxHeartbeats 4000000 in
/-- A chain that has no event twice as a From, and leads and allows as asked. -/
theorem proves_of (w : World) (f : Nat → Int) (E n c d : Nat) (a b : Option Addr) (x y : Nat) (l : List Nat) (M : Int) (hf : BOk E n f) (hne : l ≠ []) (hl : l.length ≤ 64) (hw : isWk f n x y l) (hM : wt f l = M) (hnd : (l.map (bF f)).Nodup) (hS : Sl w 3 a n f) (hG : Sl w 1 b l.length (lf l)) :
    Calls Try.prog 38 #[.int .i64 (E : Int), .slice a n c, .slice b l.length d, .int .i64 (x : Int), .int .i64 (y : Int), .int .i64 M] w fun e W' => e = .returned (.bool true) ∧ Below w.heap.size w W' := by
  have hR := chR_wk hf hne hl hw
  rw [hM] at hR
  have HR := Lib.hid hR
  have HF := Lib.hid hf
  have HS := Lib.hid hS
  have HG := Lib.hid hG
  have HW := Lib.hid hw
  have HN := Lib.hid hnd
  have hf1 := hf.1
  have hlen : 0 < l.length := List.length_pos_iff.2 hne
  have hl0 : ((l.length : Int) == 0) = false := beq_eq_false_iff_ne.2 (by omega)
  have hmm := @run_makeMap Try.prog
  clear hR hf hS hG hw hnd hne hM
  have h3 : (((x : Int) == (y : Int)) = false) ∨ (((x : Int) == (y : Int)) = true ∧ (M == 0) = false) ∨ (((x : Int) == (y : Int)) = true ∧ (M == 0) = true) := by
    cases ((x : Int) == (y : Int)) <;> cases (M == 0) <;> simp
  go_enter Try.func38, Try.ntmps38
  rcases h3 with h3 | ⟨h3, h4⟩ | ⟨h3, h4⟩
  all_goals
    go_wp2_with fail
    refine (rchain_of _ (E : Int) a b n c l.length d f (lf l) (by omega) (by omega) HS.out HG.out).mono ?_
    rintro e w2 ⟨rfl, hB2⟩
    rw [HR.out]
    dsimp only [ch4]
    have HB2 := Lib.hid hB2
    have S2 := Lib.hid (HS.out.keep (by decide) hB2)
    have G2 := Lib.hid (HG.out.keep (by decide) hB2)
    clear hB2
    go_wp2_with fail
    go_loopw [61] (fun vi wr => ∃ (i : Nat) (D : DataW Unit), i ≤ l.length ∧ vi = .int .i64 i ∧ Hid (wr.ownsMap Try.prog 3 (plainElem Try.prog 4) w2.heap.size i D) ∧ Hid (∀ (j z : Nat), i ≤ j → (l.map (bF f))[j]? = some z → D.atKey (.int .i64 (z : Int)) (.lit (.bool false)) = .lit (.bool false)) ∧ Hid (Below w.heap.size w wr)) (fun vi _ => l.length - (intOf vi).toNat)
    case atStart => exact ⟨0, .map [], by omega, rfl, World.ownsMap_made _ _ _ _, fun j z _ _ => rfl, HB2.out.alloc HB2.out.size _⟩
    case round =>
      obtain ⟨i, D, hi, rfl, HO, HD, HB⟩ := hrel
      by_cases hlt : i < l.length
      · obtain ⟨k, hk, hkn, hfk, huE, hg⟩ := from_at HF.out HW.out hlt
        obtain ⟨b2, o2, rfl, hI⟩ := HG.out (by omega)
        obtain ⟨b3, o3, rfl, hI3⟩ := HS.out (by omega)
        have d0 := (hI.keep HB.out (hI.lt (by omega))) i (by omega)
        rw [hk] at d0
        have e0 := (hI3.keep HB.out (hI3.lt (by omega))) (k * 3) (by omega)
        have e0' := hI3 (k * 3) (by omega)
        rw [hfk] at e0
        have hb3 := hI3.lt (by omega)
        have hkl : (k : Int) < n := by omega
        have hwf : (Lit.int .i64 ((bF f k : Nat) : Int)).wf = true := by
          simp only [Lit.wf, decide_eq_true_iff, Bool.and_eq_true]
          constructor
          · show (-9223372036854775808 : Int) ≤ _; omega
          · show _ ≤ (9223372036854775807 : Int); omega
        have hkey : keyOf Try.prog 3 (.int .i64 ((bF f k : Nat) : Int)) = some (.int .i64 ((bF f k : Nat) : Int)) := keyOf_int_mk Try.underlying3 hwf
        obtain ⟨v, ps, hrun, hv⟩ := HO.out.lookup seen_key Try.underlying142 (zero_bool _) (plainElem_bool Try.underlying4 false) hkey
        rw [HD.out i _ (Nat.le_refl _) hg] at hv
        obtain rfl := plain_bool_inv Try.underlying4 hv
        have HD2 : Hid (∀ (j z : Nat), i + 1 ≤ j → (l.map (bF f))[j]? = some z → (D.put (.int .i64 ((bF f k : Nat) : Int)) (.lit (.bool true))).atKey (.int .i64 (z : Int)) (.lit (.bool false)) = .lit (.bool false)) := fun j z hj hz => by
          rw [atKey_put_other (fun e => by
            have e := (Lit.int.inj e).2
            have := from_ne HN.out (show i < j by omega) hg hz
            omega)]
          exact HD.out j z (by omega) hz
        have HKey := Lib.hid hkey
        clear hI hI3 hk hg hv hwf hkey e0' HD
        generalize bF f k = u at *
        go_wp2_with (at_mapUpdate; refine wpList_mapUpdate_own _ rfl _ _ _ 142 rfl 3 4 seen_key Try.underlying142 _ w2.heap.size i D rfl HO.out (by unfold maxLen; omega) _ _ _ rfl rfl HKey.out _ [] (plainElem_bool Try.underlying4 true) ?_; intro w3 hown3 hgrow3)
        exact ⟨⟨i + 1, _, by omega, by go_num, hown3, HD2.out, HB.out.grown hgrow3 HB.out.size (fun j hj => by cases hj; exact HB2.out.size)⟩, by simp [intOf]; omega⟩
      · obtain rfl : i = l.length := by omega
        go_wp2_with fail
        go_ret
        exact ⟨rfl, HB.out⟩
end Go.Proofs.Ytonlamkpehakdaa
