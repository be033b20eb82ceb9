/-
  WALKS: few; the reference's CheckChain (the texts PqA and PqE, for a seat without the rows of PoE and PqB).
-/
import Derived.Test.YtonlamkpehakdaaPyE
import Derived.Test.YtonlamkpehakdaaPrA
namespace Go.Proofs.Ytonlamkpehakdaa
open Go.RowKit

theorem x_rbound : (Try.prog.info? 126).map (fun i => (i.zero, i.size, i.bytes)) = some (some (.agg #[.int .i64 0, .int .i64 0, .int .i64 0]), 3, 24) := by kernel_rfl
theorem cells_three (W : World) (a b c : Value) (t : TypeId) : ∀ (j : Nat) (u : Value), [a, b, c][j]? = some u → (W.alloc (.cells #[a, b, c] t)).cell? ((⟨W.heap.size, 0, none⟩ : Addr).add j) = some u := by
  intro j u h
  have hh := World.alloc_heap_new W (.cells #[a, b, c] t)
  match j, h with
  | 0, h => rw [show (⟨W.heap.size, 0, none⟩ : Addr).add 0 = ⟨W.heap.size, 0, none⟩ by simp [Addr.add], cell_h hh rfl]; simpa using h
  | 1, h => rw [show (⟨W.heap.size, 0, none⟩ : Addr).add 1 = ⟨W.heap.size, 1, none⟩ by simp [Addr.add], cell_h hh rfl]; simpa using h
  | 2, h => rw [show (⟨W.heap.size, 0, none⟩ : Addr).add 2 = ⟨W.heap.size, 2, none⟩ by simp [Addr.add], cell_h hh rfl]; simpa using h
/-- The ints of n bounds, as cells. -/
def frow (f : Nat → Int) (n : Nat) : List Value := (List.range (n * 3)).map fun i => .int .i64 (f i)
theorem frow_succ (f : Nat → Int) (k : Nat) : frow f (k + 1) = frow f k ++ [.int .i64 (f (k * 3)), .int .i64 (f (k * 3 + 1)), .int .i64 (f (k * 3 + 2))] := by
  unfold frow
  rw [show (k + 1) * 3 = k * 3 + 3 by omega, List.range_add, List.map_append]
  rfl
theorem frow_get (f : Nat → Int) {k i : Nat} (h : i < k * 3) : (frow f k)[i]? = some (.int .i64 (f i)) := by simp [frow, h]
/-- A row of bounds that is owned is a slice of them. -/
theorem own_Sl {W : World} {B : Nat} {e : TypeId} {v : Value} {n : Nat} {f : Nat → Int} (h : W.ownsRow B e 3 v n (frow f n)) : ∃ x c, v = .slice x n c ∧ Sl W 3 x n f := by
  cases n with
  | zero =>
    rcases h.2 with ⟨rfl, _⟩ | ⟨g, cap, cur, rfl, _⟩
    · exact ⟨none, 0, rfl, fun h => absurd h (by decide)⟩
    · exact ⟨some ⟨g, 0, none⟩, cap, rfl, fun h => absurd h (by decide)⟩
  | succ m =>
    obtain ⟨g, cap, rfl⟩ := ownsRow_succ h
    refine ⟨some ⟨g, 0, none⟩, cap, rfl, fun _ => ⟨g, 0, rfl, fun i hi => ?_⟩⟩
    rw [Nat.zero_add, World.ownsRow.cellAt h i hi, frow_get f hi]

/-- Where the statements say something about bounds. -/
def fewB (E : Int) (n : Nat) : Bool := decide (¬(12 < E ∧ E ≤ 64) ∧ ¬(60 < n ∧ n ≤ 256) ∧ n ≤ 300)

set_option maxRecDepth 100000 in
set_option maxHeartbeats 4000000 in
theorem few_no (w : World) (E : Int) (a : Option Addr) (n c : Nat) (h : fewB E n = false) (hn : n ≤ 9223372036854775807) :
    Calls Try.prog 29 #[.int .i64 E, .slice a n c] w fun e W' => e = .returned (.tuple #[.slice none 0 0, .bool false]) ∧ W' = w := by
  have h2 : (12 < E ∧ E ≤ 64) ∨ (E ≤ 12 ∧ 60 < n ∧ n ≤ 256) ∨ (64 < E ∧ 60 < n ∧ n ≤ 256) ∨ (E ≤ 12 ∧ 300 < n) ∨ (64 < E ∧ 300 < n) := by
    unfold fewB at h
    rw [decide_eq_false_iff_not] at h
    omega
  clear h
  rcases h2 with ⟨h1, h2⟩ | ⟨h1, h2, h3⟩ | ⟨h1, h2, h3⟩ | ⟨h1, h2⟩ | ⟨h1, h2⟩
  all_goals
    go_enter Try.func29, Try.ntmps29
    go_wp2
    exact bodyPost_ret (v := .tuple #[.slice none 0 0, .bool false]) (by simp [results, Try.f29, go_sem]) rfl ⟨rfl, rfl⟩

set_option maxRecDepth 100000 in
set_option maxHeartbeats 4000000 in
theorem few_in (w : World) (E : Int) (a : Option Addr) (n c : Nat) (f : Nat → Int) (hn : n ≤ 300) (h2 : (E ≤ 12 ∧ n ≤ 60) ∨ (E ≤ 12 ∧ 256 < n) ∨ (64 < E ∧ n ≤ 60) ∨ (64 < E ∧ 256 < n)) (hS : Sl w 3 a n f) :
    Calls Try.prog 29 #[.int .i64 E, .slice a n c] w fun e W' => ∃ v, e = .returned (.tuple #[v, .bool true]) ∧ W'.ownsRow w.heap.size 126 3 v n (frow f n) ∧ Below w.heap.size w W' := by
  obtain ⟨i0, hi, hz0, hz1, hz2⟩ := info_parts x_rbound
  have HS := Lib.hid hS
  clear hS
  rcases h2 with ⟨h1, h2⟩ | ⟨h1, h2⟩ | ⟨h1, h2⟩ | ⟨h1, h2⟩
  all_goals
    go_enter Try.func29, Try.ntmps29
    go_wp2_with fail
    go_loopw [6, 32] (fun v i wr => ∃ k : Nat, k ≤ n ∧ i = .int .i64 k ∧ Hid (wr.ownsRow w.heap.size 126 3 v k (frow f k)) ∧ Hid (Below w.heap.size w wr)) (fun _ i _ => n - (intOf i).toNat)
    case atStart => exact ⟨0, by omega, rfl, ⟨rfl, .inl ⟨rfl, rfl⟩⟩, Below.refl _ _⟩
    case round =>
      obtain ⟨k, hk, rfl, HR, HB⟩ := hrel
      by_cases hlt : k < n
      · obtain ⟨b, o, rfl, hI⟩ := HS.out (by omega)
        have hI2 := hI.keep HB.out (hI.lt (by omega))
        have d0 := hI2 (k * 3) (by omega)
        have d1 := hI2.at (k * 3) 1 (by omega)
        have d2 := hI2.at (k * 3) 2 (by omega)
        clear hI hI2
        have HF := Lib.hid (frow_succ f k)
        generalize f (k * 3) = F at d0 HF ⊢
        generalize f (k * 3 + 1) = T at d1 HF ⊢
        generalize f (k * 3 + 2) = M at d2 HF ⊢
        go_wp2_with (at_builtin; refine wpList_append_own _ rfl _ _ 56 rfl w.heap.size 126 i0 (.agg #[.int .i64 0, .int .i64 0, .int .i64 0]) 3 24 Try.underlying56 hi hz0 hz1 hz2 rfl (by decide) _ k _ rfl ((HR.out.alloc _).alloc _) ⟨wr.heap.size + 1, 0, none⟩ 1 1 [.int .i64 F, .int .i64 T, .int .i64 M] rfl rfl (by have := cells_three (wr.alloc (.cells #[.int .i64 F, .int .i64 T, .int .i64 M] 98)) (.int .i64 F) (.int .i64 T) (.int .i64 M) 126; rwa [World.size_alloc] at this) (by simp [Value.oneCell']) (by unfold maxLen; omega) (by omega) (by have := HB.out.size; simp; omega) ?_; intro v' w1 hown' hgrow _)
        exact ⟨⟨k + 1, by omega, by go_num, by rw [HF.out]; exact hown', ((HB.out.alloc HB.out.size _).alloc (by have := HB.out.size; simp; omega) _).grown hgrow (by have := HB.out.size; simp; omega) (fun j hj => (HR.out.lt j hj).1)⟩, by simp [intOf]; omega⟩
      · obtain rfl : k = n := by omega
        go_wp2
        refine bodyPost_ret (v := .tuple #[_, .bool true]) (by simp [results, Try.f29, go_sem]; rfl) rfl ?_
        exact ⟨_, rfl, HR.out, HB.out⟩
theorem few_ok (w : World) (E : Int) (a : Option Addr) (n c : Nat) (f : Nat → Int) (h : fewB E n = true) (hS : Sl w 3 a n f) :
    Calls Try.prog 29 #[.int .i64 E, .slice a n c] w fun e W' => ∃ x c', e = .returned (.tuple #[.slice x n c', .bool true]) ∧ Sl W' 3 x n f ∧ Below w.heap.size w W' := by
  unfold fewB at h
  rw [decide_eq_true_iff] at h
  refine (few_in w E a n c f (by omega) (by omega) hS).mono ?_
  rintro e w' ⟨v, rfl, ho, hb⟩
  obtain ⟨x, c', rfl, hx⟩ := own_Sl ho
  exact ⟨x, c', rfl, hx, hb⟩

theorem chR_err {E : Int} {n : Nat} {f : Nat → Int} {m : Nat} {g : Nat → Int} {r : Int} (h : chErr E n f m g = r) (hr : r ≠ 0) : chR E n f m g = (0, 0, 0, r) := by unfold chR; rw [h, if_pos hr]
theorem chErr_ix {E : Int} {n : Nat} {f : Nat → Int} {m : Nat} {g : Nat → Int} (h0 : bchk E n f = 0) (hm : 1 ≤ m ∧ m ≤ 64) {i : Nat} (hi : i < m) (hx : ¬(0 ≤ g i ∧ g i < n)) (hz : ∀ j, j < i → 0 ≤ g j ∧ g j < n) : chErr E n f m g = 1 := by
  have h1 : first (ciAt n g) m = 1 := by
    have e : ciAt n g i = 1 := by unfold ciAt; rw [if_neg hx]
    rw [← e]
    exact first_at (fun j hj => by unfold ciAt; rw [if_pos (hz j hj)]) (by rw [e]; decide) hi
  unfold chErr
  rw [if_neg (by simpa using h0), if_neg (by omega), h1]; rfl
theorem chErr_co {E : Int} {n : Nat} {f : Nat → Int} {m : Nat} {g : Nat → Int} (h0 : bchk E n f = 0) (hm : 1 ≤ m ∧ m ≤ 64) (hz : ∀ j, j < m → 0 ≤ g j ∧ g j < n) : chErr E n f m g = first (coAt f g) (m - 1) := by
  have h1 : first (ciAt n g) m = 0 := first_zero fun j hj => by unfold ciAt; rw [if_pos (hz j hj)]
  unfold chErr
  rw [if_neg (by simpa using h0), if_neg (by omega), h1, if_neg (by decide)]

theorem csum_bd2 {E : Int} {n : Nat} {f : Nat → Int} {m : Nat} {g : Nat → Int} (h : bchk E n f = 0) (hz : ∀ i, i < m → 0 ≤ g i ∧ g i < n) : ∀ k, k ≤ m → -1073741824 * (k : Int) ≤ csum f g k ∧ csum f g k ≤ 1073741824 * (k : Int)
  | 0, _ => by simp [csum]
  | k + 1, hk => by
    have ih := csum_bd2 h hz k (by omega)
    have hi := hz k (by omega)
    have hb := bchk_most h (i := (g k).toNat) (by omega)
    simp only [csum]
    omega

set_option maxRecDepth 100000 in
set_option maxHeartbeats 4000000 in
theorem rchain_of (w : World) (E : Int) (a b : Option Addr) (n c m d : Nat) (f g : Nat → Int) (hn0 : n ≤ 9223372036854775807) (hm : m ≤ 9223372036854775807) (hS : Sl w 3 a n f) (hG : Sl w 1 b m g) :
    Calls Try.prog 37 #[.int .i64 E, .slice a n c, .slice b m d] w fun e' w' => e' = .returned (ch4 (chR E n f m g)) ∧ Below w.heap.size w w' := by
  by_cases h0 : bchk E n f = 0
  · have hn := bchk_n h0
    have H0 := Lib.hid h0
    by_cases h1 : m = 0 ∨ 64 < m
    · have hE : chErr E n f m g = 4 := by unfold chErr; rw [if_neg (by simpa using h0), if_pos h1]
      rw [chR_err hE (by decide)]
      clear hE h0 hG
      go_enter Try.func37, Try.ntmps37
      go_wp2_with (first
        | (go_at_call 33; refine (rcheck_of _ E a n c f hn0 hS).mono ?_; rintro e w9 ⟨rfl, hw9⟩; rw [hw9]; clear hw9 w9; rw [H0.out])
        | (go_at_call 50; refine (wi_of false _ _ _ _ (by symm; rw [decide_eq_false_iff_not]; omega)).mono ?_; rintro e w9 ⟨rfl, hw9⟩; rw [hw9]; clear hw9 w9))
      exact bodyPost_ret (v := ch4 (0, 0, 0, 4)) (by simp [results, Try.f37, go_sem, ch4]) rfl ⟨rfl, Below.refl _ _⟩
    have hm1 : 1 ≤ m ∧ m ≤ 64 := by omega
    clear h1
    obtain ⟨r, hr⟩ : ∃ r, chR E n f m g = r := ⟨_, rfl⟩
    rw [hr]
    have HRr := Lib.hid hr
    clear h0 hr
    have HG := Lib.hid hG
    have HS := Lib.hid hS
    clear hG hS
    go_enter Try.func37, Try.ntmps37
    go_wp2_with (first
        | (go_at_call 33; refine (rcheck_of _ E a n c f hn0 HS.out).mono ?_; rintro e w9 ⟨rfl, hw9⟩; rw [hw9]; clear hw9 w9; rw [H0.out])
        | (go_at_call 50; refine (wi_of true _ _ _ _ (by symm; rw [decide_eq_true_iff]; omega)).mono ?_; rintro e w9 ⟨rfl, hw9⟩; rw [hw9]; clear hw9 w9))
    go_loopw [11] (fun vi wr => ∃ i : Nat, i ≤ m ∧ vi = .int .i64 i ∧ Hid (∀ j, j < i → 0 ≤ g j ∧ g j < n) ∧ Hid (wr = w)) (fun vi _ => m - (intOf vi).toNat)
    case atStart => exact ⟨0, by omega, rfl, fun j hj => by omega, rfl⟩
    case round =>
      obtain ⟨i, hi, rfl, HI, HW⟩ := hrel
      by_cases hlt : i < m
      · obtain ⟨bb, o, rfl, hI⟩ := HG.out (by omega)
        have hI2 : Ints wr bb o (m * 1) g := by rw [HW.out]; exact hI
        have d0 := hI2 i (by omega)
        clear hI hI2
        obtain ⟨X, hX⟩ : ∃ X, g i = X := ⟨_, rfl⟩
        have HX := Lib.hid hX
        rw [hX] at d0
        clear hX
        have hx : (0 ≤ X ∧ X < n) ∨ X < 0 ∨ (0 ≤ X ∧ (n : Int) ≤ X) := by omega
        rcases hx with hx | hx | hx
        · go_wp2_with fail
          exact ⟨⟨i + 1, by omega, by go_num, (fun j hj => by
            by_cases ej : j = i
            · subst ej; rw [HX.out]; exact hx
            · exact HI.out j (by omega)), HW.out⟩, by simp [intOf]; omega⟩
        all_goals
          have hE := chR_err (chErr_ix (f := f) H0.out hm1 hlt (by rw [HX.out]; omega) HI.out) (by decide)
          rw [HRr.out] at hE
          have HE := Lib.hid hE
          clear hE
          go_wp2_with fail
          exact bodyPost_ret (v := ch4 (0, 0, 0, 1)) (by simp [results, Try.f37, go_sem, ch4]) rfl ⟨by rw [HE.out], by rw [HW.out]; exact Below.refl _ _⟩
      · obtain rfl : i = m := by omega
        have HCo : Hid (chErr E n f i g = first (coAt f g) (i - 1)) := chErr_co H0.out hm1 HI.out
        obtain ⟨b2, o2, rfl, hI2⟩ := HG.out (by omega)
        have c1 := HI.out 0 (by omega)
        obtain ⟨b3, o3, rfl, hI3⟩ := HS.out (by omega)
        have hJ : Ints wr b2 o2 (i * 1) g := by rw [HW.out]; exact hI2
        have hJ3 : Ints wr b3 o3 (n * 3) f := by rw [HW.out]; exact hI3
        have d1 : wr.cell? ⟨b2, o2, none⟩ = some (.int .i64 (g 0)) := hJ 0 (by omega)
        obtain ⟨x, hx⟩ : ∃ x : Nat, g 0 = (x : Int) := ⟨(g 0).toNat, by omega⟩
        have HX := Lib.hid hx
        rw [hx] at d1 c1
        have hxn : x < n := by omega
        have e1 := hJ3 (x * 3) (by omega)
        obtain ⟨A0, hA0⟩ : ∃ A0, f (x * 3) = A0 := ⟨_, rfl⟩
        rw [hA0] at e1
        have HA0 := Lib.hid hA0
        have HJ := Lib.hid hJ
        have HJ3 := Lib.hid hJ3
        clear hI2 hI3 hx hA0 hJ hJ3
        go_wp2_with fail
        clear d1 e1
        have HBw : Hid (Below w.heap.size w wr) := by rw [HW.out]; exact Below.refl _ _
        go_loopw [13, 14, 15] (fun va vs vk wr' => ∃ k : Nat, k ≤ i ∧ vk = .int .i64 k ∧ vs = .int .i64 (csum f g k) ∧ va = .int .i64 (if k = 0 then A0 else f ((g (k - 1)).toNat * 3 + 1)) ∧ Hid (∀ j, j + 1 < k → coAt f g j = 0) ∧ Hid (Below wr.heap.size wr wr')) (fun _ _ vk _ => i - (intOf vk).toNat)
        case atStart => exact ⟨0, by omega, rfl, rfl, rfl, fun j hj => by omega, Below.refl _ _⟩
        case round =>
          obtain ⟨k, hk, rfl, rfl, rfl, HI3, HB3⟩ := hrel
          by_cases hlt2 : k < i
          · have cz := HI.out k hlt2
            obtain ⟨y, hy⟩ : ∃ y : Nat, g k = (y : Int) := ⟨(g k).toNat, by omega⟩
            obtain ⟨Ac, hAc⟩ : ∃ Ac, (if k = 0 then A0 else f ((g (k - 1)).toNat * 3 + 1)) = Ac := ⟨_, rfl⟩
            rw [hAc]
            have hcase : (f (y * 3) = Ac ∧ ∀ j, j + 1 < k + 1 → coAt f g j = 0) ∨ (f (y * 3) ≠ Ac ∧ chErr E n f i g = 7) := by
              by_cases e : k = 0
              · subst e
                rw [if_pos rfl] at hAc
                have : y = x := by have h1 := HX.out; omega
                subst this
                exact .inl ⟨by rw [← hAc]; exact HA0.out, fun j hj => by omega⟩
              · obtain ⟨k', rfl⟩ : ∃ k', k = k' + 1 := ⟨k - 1, by omega⟩
                rw [if_neg e, Nat.add_sub_cancel] at hAc
                have hco : coAt f g k' = if f (y * 3) = Ac then 0 else 7 := by unfold coAt; rw [hy, Int.toNat_natCast, hAc]
                by_cases e2 : f (y * 3) = Ac
                · rw [if_pos e2] at hco
                  refine .inl ⟨e2, fun j hj => ?_⟩
                  by_cases ej : j = k'
                  · subst ej; exact hco
                  · exact HI3.out j (by omega)
                · rw [if_neg e2] at hco
                  refine .inr ⟨e2, ?_⟩
                  rw [HCo.out, ← hco]
                  exact first_at (fun j hj => HI3.out j (by omega)) (by rw [hco]; decide) (by omega)
            have hJ2 := HJ.out.keep HB3.out (HJ.out.lt (by omega))
            have hJ4 := HJ3.out.keep HB3.out (HJ3.out.lt (by omega))
            have d1 := hJ2 k (by omega)
            have hyn : y < n := by omega
            rw [hy] at d1
            have e0 := hJ4 (y * 3) (by omega)
            have e1 := hJ4.at (y * 3) 1 (by omega)
            have e2 := hJ4.at (y * 3) 2 (by omega)
            have hb := (bchk_most H0.out hyn).2.2
            have hs := csum_bd2 H0.out HI.out k (by omega)
            have HS2 : Hid (csum f g (k + 1) = csum f g k + f (y * 3 + 2)) := by show csum f g k + f ((g k).toNat * 3 + 2) = _; rw [hy, Int.toNat_natCast]
            have HT : Hid ((if k + 1 = 0 then A0 else f ((g (k + 1 - 1)).toNat * 3 + 1)) = f (y * 3 + 1)) := by show (if k + 1 = 0 then A0 else f ((g (k + 1 - 1)).toNat * 3 + 1)) = f (y * 3 + 1); rw [if_neg (by omega), Nat.add_sub_cancel, hy, Int.toNat_natCast]
            have hBa := HB3.out.alloc HB3.out.size (.cells #[.int .i64 (f (y * 3)), .int .i64 (f (y * 3 + 1)), .int .i64 (f (y * 3 + 2))] 126)
            have HBa := Lib.hid hBa
            clear hJ2 hJ4 hy hAc hBa
            generalize f (y * 3) = F at hcase e0 HBa ⊢
            generalize f (y * 3 + 1) = T at e1 HT HBa ⊢
            generalize f (y * 3 + 2) = M at e2 hb HS2 HBa ⊢
            generalize csum f g k = S at hs HS2 ⊢
            rcases hcase with ⟨hF, hI4⟩ | ⟨hF, hE⟩
            · subst hF
              have HI4 := Lib.hid hI4
              clear hI4
              go_wp2_with fail
              exact ⟨⟨k + 1, by omega, by go_num, by rw [HS2.out], by rw [HT.out], HI4.out, HBa.out⟩, by simp [intOf]; omega⟩
            · have hb1 : (F == Ac) = false := by simpa using hF
              have hb2 : (F != Ac) = true := by simpa using hF
              have hE2 := chR_err hE (by decide)
              rw [HRr.out] at hE2
              have HE2 := Lib.hid hE2
              clear hF hE hE2
              go_wp2_with fail
              exact bodyPost_ret (v := ch4 (0, 0, 0, 7)) (by simp [results, Try.f37, go_sem, ch4]) rfl ⟨by rw [HE2.out], HBw.out.trans (HBa.out.mono HBw.out.size)⟩
          · obtain rfl : k = i := by omega
            have h7 : chErr E n f k g = 0 := by rw [HCo.out]; exact first_zero fun j hj => HI3.out j (by omega)
            have hE : r = (A0, (if k = 0 then A0 else f ((g (k - 1)).toNat * 3 + 1)), csum f g k, 0) := by
              rw [← HRr.out]
              unfold chR
              rw [if_neg (by simpa using h7), HX.out, Int.toNat_natCast, HA0.out, if_neg (by omega)]
            have HE := Lib.hid hE
            clear hE h7
            generalize (if k = 0 then A0 else f ((g (k - 1)).toNat * 3 + 1)) = Ac at HE ⊢
            generalize csum f g k = S at HE ⊢
            go_wp2_with fail
            exact bodyPost_ret (v := ch4 (A0, Ac, S, 0)) (by simp [results, Try.f37, go_sem, ch4]) rfl ⟨by rw [HE.out], HBw.out.trans (HB3.out.mono HBw.out.size)⟩
  · have hE : chErr E n f m g = bchk E n f := by unfold chErr; rw [if_pos (by simpa using h0)]
    rw [chR_err hE h0]
    have hne : (bchk E n f == 0) = false := by simpa using h0
    have hne2 : (bchk E n f != 0) = true := by simpa using h0
    clear hE h0 hG
    go_enter Try.func37, Try.ntmps37
    go_wp2_with (go_at_call 33; refine (rcheck_of _ E a n c f hn0 hS).mono ?_; rintro e w9 ⟨rfl, hw9⟩; rw [hw9]; clear hw9 w9)
    exact bodyPost_ret (v := ch4 (0, 0, 0, bchk E n f)) (by simp [results, Try.f37, go_sem, ch4]) rfl ⟨rfl, Below.refl _ _⟩
end Go.Proofs.Ytonlamkpehakdaa
