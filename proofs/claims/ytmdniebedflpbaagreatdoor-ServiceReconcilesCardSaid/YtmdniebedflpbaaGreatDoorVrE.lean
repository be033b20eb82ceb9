/-
  WORDS: rows of findings; WALKS: Reconcile (the reference).
-/
import Derived.Test.YtmdniebedflpbaaGreatDoorVrD
import Derived.Laws.AppendOwnNone
namespace Go.Proofs.YtmdniebedflpbaaGreatDoor
open Go.RowKit

/-- Findings, as cells. -/
def fdr (n : Nat) (f : Nat → Int) : List Value := (List.range (n * 6)).map fun q => .int .i64 (f q)
theorem fdr_len (n : Nat) (f : Nat → Int) : (fdr n f).length = n * 6 := by simp [fdr]
theorem fdr_get {n : Nat} {f : Nat → Int} {j : Nat} (h : j < n * 6) : (fdr n f)[j]? = some (.int .i64 (f j)) := by simp [fdr, h]
def comb (n : Nat) (f h : Nat → Int) (t : Nat) : Int := if t < n * 6 then f t else h (t - n * 6)
theorem fdr_app (n m : Nat) (f h : Nat → Int) : fdr n f ++ fdr m h = fdr (n + m) (comb n f h) := by
  apply List.ext_getElem?
  intro j
  by_cases h1 : j < n * 6
  · rw [List.getElem?_append_left (by rw [fdr_len]; exact h1), fdr_get h1, fdr_get (by omega)]
    simp [comb, h1]
  · rw [List.getElem?_append_right (by rw [fdr_len]; omega), fdr_len]
    by_cases h2 : j - n * 6 < m * 6
    · rw [fdr_get h2, fdr_get (by omega)]
      simp [comb, h1]
    · rw [List.getElem?_eq_none (by rw [fdr_len]; omega), List.getElem?_eq_none (by rw [fdr_len]; omega)]
theorem comb_at (n : Nat) (f h : Nat → Int) (i : Nat) : Fd.at (comb n f h) i = if i < n then Fd.at f i else Fd.at h (i - n) := by
  unfold Fd.at comb
  by_cases hi : i < n
  · rw [if_pos hi]
    simp only [show i * 6 < n * 6 by omega, show i * 6 + 1 < n * 6 by omega, show i * 6 + 2 < n * 6 by omega, show i * 6 + 3 < n * 6 by omega, show i * 6 + 4 < n * 6 by omega, show i * 6 + 5 < n * 6 by omega, if_true]
  · rw [if_neg hi]
    simp only [show ¬ i * 6 < n * 6 by omega, show ¬ i * 6 + 1 < n * 6 by omega, show ¬ i * 6 + 2 < n * 6 by omega, show ¬ i * 6 + 3 < n * 6 by omega, show ¬ i * 6 + 4 < n * 6 by omega, show ¬ i * 6 + 5 < n * 6 by omega, if_false,
      show i * 6 - n * 6 = (i - n) * 6 by omega, show i * 6 + 1 - n * 6 = (i - n) * 6 + 1 by omega, show i * 6 + 2 - n * 6 = (i - n) * 6 + 2 by omega, show i * 6 + 3 - n * 6 = (i - n) * 6 + 3 by omega, show i * 6 + 4 - n * 6 = (i - n) * 6 + 4 by omega, show i * 6 + 5 - n * 6 = (i - n) * 6 + 5 by omega]
theorem comb_ok (n m : Nat) (f h : Nat → Int) : (∀ i, i < n + m → (Fd.at (comb n f h) i).ok) ↔ allOk n f ∧ allOk m h := by
  constructor
  · intro g
    refine ⟨fun i hi => ?_, fun i hi => ?_⟩
    · have := g i (by omega)
      rwa [comb_at, if_pos hi] at this
    · have := g (n + i) (by omega)
      rwa [comb_at, if_neg (by omega), Nat.add_sub_cancel_left] at this
  · rintro ⟨g1, g2⟩ i hi
    rw [comb_at]
    by_cases h : i < n
    · rw [if_pos h]; exact g1 i h
    · rw [if_neg h]; exact g2 _ (by omega)
theorem x_fd : (Tryz.prog.info? 112).map (fun i => (i.zero, i.size, i.bytes)) = some (some (.agg #[.int .i64 0, .int .i64 0, .int .i64 0, .int .i64 0, .int .i64 0, .int .i64 0]), 6, 48) := by kernel_rfl
theorem add_off (b o j : Nat) : (⟨b, o, none⟩ : Addr).add j = ⟨b, o + j, none⟩ := by unfold Addr.add; split <;> simp_all
theorem own_sl {W : World} {B k : Nat} {v : Value} {F : Nat → Int} (h : W.ownsRow B 112 6 v k (fdr k F)) : ∃ a c, v = .slice a k c ∧ Sl W 6 a k F := by
  have hh := h
  obtain ⟨hl, h⟩ := h
  rcases h with ⟨rfl, rfl⟩ | ⟨g, cap, cur, rfl, _, _, _, _, _, _⟩
  · exact ⟨none, 0, rfl, fun h => absurd h (by decide)⟩
  · refine ⟨_, _, rfl, fun _ => ⟨g, 0, rfl, fun i hi => ?_⟩⟩
    have := hh.cells (g := g) rfl i _ (fdr_get hi)
    rwa [add_off] at this
theorem wpList_append_fds {w : World} {ops : Array Oper} {rest : List Oper} {o : Oper} {a : Act} {Q : Exit → Act → World → Prop} (hgd : o.guard = none) (s x : Operand)
    (ho : o.op = .call { callee := .builtin .append, args := #[s, x], argTypes := #[59, 59] })
    (B : Nat) (v : Value) (k : Nat) (xs : List Value) (hs : a.eval s = v) (hown : w.ownsRow B 112 6 v k xs) (pa : Option Addr) (n ca : Nat) (f : Nat → Int) (hx : a.eval x = .slice pa n ca) (hS : Sl w 6 pa n f) (hna : pa = none → n = 0 ∧ ca = 0) (hk : k + n ≤ 1000) (hB : B ≤ w.heap.size)
    (h : ∀ v' w', w'.ownsRow B 112 6 v' (k + n) (xs ++ fdr n f) → Below B w w' → wpList Tryz.prog ops Q rest (a.put o.dst v') w') : wpList Tryz.prog ops Q (o :: rest) a w := by
  obtain ⟨i0, hi0, hz0, hz1, hz2⟩ := info_parts x_fd
  cases pa with
  | none =>
    obtain ⟨rfl, rfl⟩ := hna rfl
    refine wpList_append_own_none hgd s x _ ho B 112 i0 6 Tryz.underlying59 hi0 v k xs hs hown hx ?_
    refine h v w ?_ (Below.refl _ _)
    simpa [fdr] using hown
  | some ad =>
    refine wpList_append_own w hgd s x _ ho B 112 i0 (.agg #[.int .i64 0, .int .i64 0, .int .i64 0, .int .i64 0, .int .i64 0, .int .i64 0]) 6 48 Tryz.underlying59 hi0 hz0 hz1 hz2 rfl (by decide) v k xs hs hown ad n ca (fdr n f) hx (fdr_len _ _) ?_ ?_ (by unfold maxLen; omega) (by omega) hB ?_
    · intro j u hu
      have hj : j < n * 6 := by
        have := (List.getElem?_eq_some_iff.1 hu).1
        rwa [fdr_len] at this
      rw [fdr_get hj] at hu
      obtain rfl := Option.some.inj hu
      obtain ⟨b, o', hab, hI⟩ := hS (by omega)
      obtain rfl := Option.some.inj hab
      rw [add_off]
      exact hI j hj
    · intro u hu
      obtain ⟨q, _, rfl⟩ := List.mem_map.1 hu
      rfl
    · intro v' w' h1 h2 _
      exact h v' w' h1 ((Below.refl B w).grown h2 hB (fun j hj => (hown.lt j hj).1))

set_option maxRecDepth 100000 in
set_option maxHeartbeats 16000000 in
theorem rrec_of (w : World) (a b' : Option Addr) (n m ca cb : Nat) (f h : Nat → Int) (near : Int) (L : List (Nat × Nat)) (E : Int) (hn : n ≤ maxLen) (hm : m ≤ maxLen) (hSa : Sl w 6 a n f) (hSb : Sl w 6 b' m h) (hna : a = none → n = 0 ∧ ca = 0) (hnb : b' = none → m = 0 ∧ cb = 0) (hW : RcW n m f h near L E) :
    Calls Tryz.prog 26 #[.slice a n ca, .slice b' m cb, .int .i64 near] w (RcEnd w L E) := by
  have hmx : maxLen = 9223372036854775807 := rfl
  have HSa := Lib.hid hSa
  have HSb := Lib.hid hSb
  have HNA := Lib.hid hna
  have HNB := Lib.hid hnb
  clear hSa hSb hna hnb
  by_cases hbig : 24 < n ∨ 24 < m
  · rcases hW with ⟨_, rfl, rfl⟩ | ⟨h1, h2, _⟩ | ⟨h1, h2, _⟩ | ⟨h1, h2, _⟩
    rotate_left
    · omega
    · omega
    · omega
    by_cases hb1 : 24 < n
    · have hb2 : (24 : Int) < (n : Int) := by omega
      go_enter Tryz.func26, Tryz.ntmps26
      go_wp2_with fail
      exact bodyPost_ret (v := .tuple #[.slice none 0 0, .int .i64 4]) (by simp [results, Tryz.f26, go_sem]) rfl ⟨_, rfl, World.ownsRow_nil _ _ _ _, Below.refl _ _⟩
    · have hb2 : ¬ (24 : Int) < (n : Int) := by omega
      have hb3 : (24 : Int) < (m : Int) := by omega
      go_enter Tryz.func26, Tryz.ntmps26
      go_wp2_with fail
      exact bodyPost_ret (v := .tuple #[.slice none 0 0, .int .i64 4]) (by simp [results, Tryz.f26, go_sem]) rfl ⟨_, rfl, World.ownsRow_nil _ _ _ _, Below.refl _ _⟩
  have hn24 : n ≤ 24 := by omega
  have hm24 : m ≤ 24 := by omega
  have hb2 : ¬ (24 : Int) < (n : Int) := by omega
  have hb3 : ¬ (24 : Int) < (m : Int) := by omega
  have HD : Hid (∀ i k, (fun i k => dst (Fd.at f i) (Fd.at h k)) i k = dst (Fd.at f i) (Fd.at h k)) := fun _ _ => rfl
  unfold RcW at hW
  obtain ⟨D, hD⟩ : ∃ D, (fun i k => dst (Fd.at f i) (Fd.at h k)) = D := ⟨_, rfl⟩
  rw [hD] at HD hW
  clear hD
  have HE1 : Hid (¬ (allOk n f ∧ allOk m h) → L = [] ∧ E = 1) := fun hb => by
    rcases hW with ⟨h1, _⟩ | ⟨_, _, _, h2⟩ | ⟨_, _, h1, h2, _⟩ | ⟨_, _, h1, h2, _⟩
    · exact absurd h1 hbig
    · exact h2
    · exact absurd ⟨h1, h2⟩ hb
    · exact absurd ⟨h1, h2⟩ hb
  have HE0 : Hid (allOk n f ∧ allOk m h → near < 0 → L = [] ∧ E = 1) := fun hb hneg => by
    rcases hW with ⟨h1, _⟩ | ⟨_, _, h1, _⟩ | ⟨_, _, _, _, _, h2⟩ | ⟨_, _, _, _, h1, _⟩
    · exact absurd h1 hbig
    · exact absurd hb h1
    · exact h2
    · omega
  have HE2 : Hid (allOk n f ∧ allOk m h → 0 ≤ near → L = rcU D n m near n ∧ E = 0) := fun hb hpos => by
    rcases hW with ⟨h1, _⟩ | ⟨_, _, h1, _⟩ | ⟨_, _, _, _, h1, _⟩ | ⟨_, _, _, _, _, h2⟩
    · exact absurd h1 hbig
    · exact absurd hb h1
    · omega
    · exact h2
  clear hW hbig hmx
  go_enter Tryz.func26, Tryz.ntmps26
  go_upto_region 3 with fail
  have ho0 : (w.alloc (.cells #[] 112)).ownsRow w.heap.size 112 6 (.slice (some ⟨w.heap.size, 0, none⟩) 0 0) 0 [] := ⟨rfl, .inr ⟨w.heap.size, 0, #[], rfl, Nat.le_refl _, new_heap w _, Nat.le_refl _, by decide, rfl, rfl⟩⟩
  have hal : Below w.heap.size w (w.alloc (.cells #[] 112)) := (Below.refl _ _).alloc (Nat.le_refl _) _
  go_upto_region 4 with (first | (at_builtin; refine wpList_append_fds rfl _ _ rfl w.heap.size _ 0 [] rfl ho0 a n ca f rfl (HSa.out.keep (by decide) hal) HNA.out (by omega) (by simp) ?_; intro v1 W1 ho1 hb1; have HO1 := Lib.hid ho1; have HB1 := Lib.hid (hal.trans hb1); clear ho1 hb1 ho0 hal) | (at_builtin; refine wpList_append_fds rfl _ _ rfl w.heap.size _ (0 + n) ([] ++ fdr n f) rfl HO1.out b' m cb h rfl (HSb.out.keep (by decide) HB1.out) HNB.out (by omega) HB1.out.size ?_; intro v2 W2 ho2 hb2'; have HO2 := Lib.hid ho2; have HB2 := Lib.hid (HB1.out.trans hb2'); clear ho2 hb2' HO1 HB1))
  have ho3 := HO2.out
  rw [List.nil_append, fdr_app, Nat.zero_add] at ho3
  obtain ⟨a2, c2, rfl, hS2⟩ := own_sl ho3
  have HOK := Lib.hid (comb_ok n m f h)
  obtain ⟨F, hF⟩ : ∃ F, comb n f h = F := ⟨_, rfl⟩
  rw [hF] at hS2 HOK
  obtain ⟨N, hN⟩ : ∃ N, n + m = N := ⟨_, rfl⟩
  rw [hN]
  rw [hN] at hS2 HOK
  have hN48 : N ≤ 48 := by omega
  have HS2 := Lib.hid hS2
  clear ho3 HO2 hF hN hS2
  go_wp2_with fail
  go_loopw [9] (fun v9 wr => ∃ i : Nat, i ≤ N ∧ v9 = .int .i64 (i : Int) ∧ Hid (∀ t, t < i → (Fd.at F t).ok) ∧ W2 = wr) (fun v9 _ => N - (intOf v9).toNat)
  case atStart => exact ⟨0, by omega, rfl, Lib.hid (fun t ht => by omega), rfl⟩
  case round =>
    obtain ⟨i, hi, rfl, HK, rfl⟩ := hrel
    by_cases hlt : i < N
    · have hin : (i : Int) < (N : Int) := by omega
      have hwi : IntKind.i64.wrap ((i : Int) + 1) = (i : Int) + 1 := IntWalk.i64_in _ (by omega)
      obtain ⟨b, o, rfl, hI⟩ := HS2.out (by omega)
      obtain ⟨d0, d1, d2, d3, d4, d5⟩ := Fd.get hI hlt
      clear hI
      obtain ⟨x, hx⟩ : ∃ x, Fd.at F i = x := ⟨_, rfl⟩
      rw [hx] at d0 d1
      have HX := Lib.hid hx
      clear hx d2 d3 d4 d5
      by_cases q0 : x.a < 0
      · skip
        have hbad : ¬ x.ok := fun hk => by obtain ⟨⟨_, _⟩, _, _⟩ := hk; omega
        obtain ⟨rfl, rfl⟩ := HE1.out (fun g => hbad (by rw [← HX.out]; exact HOK.out.2 g i hlt))
        go_wp2_with fail
        exact bodyPost_ret (v := .tuple #[.slice none 0 0, .int .i64 1]) (by simp [results, Tryz.f26, go_sem]) rfl ⟨_, rfl, World.ownsRow_nil _ _ _ _, HB2.out⟩
      by_cases q1 : 1073741824 < x.a
      · skip
        have hbad : ¬ x.ok := fun hk => by obtain ⟨⟨_, _⟩, _, _⟩ := hk; omega
        obtain ⟨rfl, rfl⟩ := HE1.out (fun g => hbad (by rw [← HX.out]; exact HOK.out.2 g i hlt))
        go_wp2_with fail
        exact bodyPost_ret (v := .tuple #[.slice none 0 0, .int .i64 1]) (by simp [results, Tryz.f26, go_sem]) rfl ⟨_, rfl, World.ownsRow_nil _ _ _ _, HB2.out⟩
      by_cases q2 : x.c < 0
      · skip
        have hbad : ¬ x.ok := fun hk => by obtain ⟨⟨_, _⟩, _, _⟩ := hk; omega
        obtain ⟨rfl, rfl⟩ := HE1.out (fun g => hbad (by rw [← HX.out]; exact HOK.out.2 g i hlt))
        go_wp2_with fail
        exact bodyPost_ret (v := .tuple #[.slice none 0 0, .int .i64 1]) (by simp [results, Tryz.f26, go_sem]) rfl ⟨_, rfl, World.ownsRow_nil _ _ _ _, HB2.out⟩
      by_cases q3 : 720 ≤ x.c
      · skip
        have hbad : ¬ x.ok := fun hk => by obtain ⟨⟨_, _⟩, _, _⟩ := hk; omega
        obtain ⟨rfl, rfl⟩ := HE1.out (fun g => hbad (by rw [← HX.out]; exact HOK.out.2 g i hlt))
        go_wp2_with fail
        exact bodyPost_ret (v := .tuple #[.slice none 0 0, .int .i64 1]) (by simp [results, Tryz.f26, go_sem]) rfl ⟨_, rfl, World.ownsRow_nil _ _ _ _, HB2.out⟩
      have hok : x.ok := ⟨⟨by omega, by omega⟩, by omega, by omega⟩
      go_wp2_with fail
      exact ⟨⟨i + 1, by omega, by go_num, Lib.hid (fun t ht => by
        rcases Nat.lt_or_ge t i with h | h
        · exact HK.out t h
        · obtain rfl : t = i := by omega
          rw [HX.out]; exact hok), trivial⟩, by simp [intOf]; omega⟩
    · have eN : i = N := by omega
      rw [eN] at HK
      have hall := HOK.out.1 HK.out
      have hin : ¬ (i : Int) < (N : Int) := by omega
      by_cases hneg : near < 0
      · obtain ⟨rfl, rfl⟩ := HE0.out hall hneg
        go_wp2_with fail
        exact bodyPost_ret (v := .tuple #[.slice none 0 0, .int .i64 1]) (by simp [results, Tryz.f26, go_sem]) rfl ⟨_, rfl, World.ownsRow_nil _ _ _ _, HB2.out⟩
      obtain ⟨rfl, rfl⟩ := HE2.out hall (by omega)
      have HBs := HB2
      have HFa : Hid (∀ i, i < n → (Fd.at f i).ok) := hall.1
      have HFb : Hid (∀ i, i < m → (Fd.at h i).ok) := hall.2
      clear hall HE0 HE1 HE2 HOK HK HB2
      go_wp2_with fail
      go_loopw [10, 11, 12] (fun v10 v11 v12 wr => ∃ i : Nat, i ≤ n ∧ v11 = .int .i64 (i : Int) ∧ Hid (wr.ownsRow w.heap.size 64 2 v10 (rcU D n m near i).length (prw (rcU D n m near i))) ∧ Hid (Below w.heap.size w wr)) (fun _ v11 _ _ => n - (intOf v11).toNat)
      case atStart => exact ⟨0, by omega, rfl, Lib.hid (World.ownsRow_nil _ _ _ _), HBs⟩
      case round =>
        obtain ⟨i, hi, rfl, HO, HB⟩ := hrel
        by_cases hlt : i < n
        · have hin : (i : Int) < (n : Int) := by omega
          have hwi : IntKind.i64.wrap ((i : Int) + 1) = (i : Int) + 1 := IntWalk.i64_in _ (by omega)
          obtain ⟨b, o, rfl, hI⟩ := HSa.out (by omega)
          have HI := Lib.hid (hI.keep HB.out (hI.lt (by omega)))
          clear hI
          have hokx := HFa.out i hlt
          obtain ⟨x, hx⟩ : ∃ x, Fd.at f i = x := ⟨_, rfl⟩
          rw [hx] at hokx
          have HOKX := Lib.hid hokx
          have HDX : Hid (∀ k, k < m → D i k = dst x (Fd.at h k)) := fun k _ => by rw [← hx]; exact HD.out i k
          clear hokx
          obtain ⟨d0, d1, d2, d3, d4, d5⟩ := Fd.get HI.out hlt
          rw [hx] at d0 d1 d2 d3 d4 d5
          go_wp2_with fail
          refine (rnear_of _ x b' m cb h (D i) hm24 (HSb.out.keep (by decide) HB.out) HOKX.out HFb.out HDX.out).mono ?_
          rintro e V1 ⟨rfl, hB⟩
          have HI3 := Lib.hid (HI.out.keep hB (HI.out.lt (by omega)))
          have HB3 := Lib.hid (low_trans HB.out hB)
          have HO3 := Lib.hid (own_keep HO.out hB)
          clear hB d0 d1 d2 d3 d4 d5 HI HB HO
          go_upto_region 16 with fail
          have hst : rcU D n m near (i + 1) = if isP D n m near i = true then rcU D n m near i ++ [(i, (nr (D i) m).toNat)] else rcU D n m near i := rfl
          have hip : isP D n m near i = (decide (0 ≤ nr (D i) m) && decide (nr (fun j => D j (nr (D i) m).toNat) n = (i : Int)) && decide (D i (nr (D i) m).toNat ≤ near)) := rfl
          have hnge := nr_ge (D i) m
          have hnlt := nr_lt (D i) m
          obtain ⟨bst, hbst⟩ : ∃ z, nr (D i) m = z := ⟨_, rfl⟩
          rw [hbst] at hst hip hnge hnlt ⊢
          have HST := Lib.hid hst
          have HIP := Lib.hid hip
          clear hbst hst hip
          by_cases h0 : 0 ≤ bst
          · obtain ⟨k, rfl⟩ := Int.eq_ofNat_of_zero_le h0
            have hkm : (k : Int) < (m : Int) := by omega
            have hkm2 : k < m := by omega
            have hk0 : (k : Int) ≥ 0 := h0
            have hoky := HFb.out k hkm2
            have hdk : D i k = dst x (Fd.at h k) := HDX.out k hkm2
            have HDY : Hid (∀ j, j < n → D j k = dst (Fd.at h k) (Fd.at f j)) := fun j _ => by rw [dst_comm]; exact HD.out j k
            obtain ⟨y, hy⟩ : ∃ y, Fd.at h k = y := ⟨_, rfl⟩
            rw [hy] at hoky hdk HDY
            obtain ⟨b2, o2, hb2, hI2⟩ := HSb.out (by omega)
            have HI2 := Lib.hid (hI2.keep HB3.out (hI2.lt (by omega)))
            clear hI2
            subst hb2
            have HQ : Hid (∀ W, Below w.heap.size w W → Calls Tryz.prog 59 #[.agg #[.int .i64 y.a, .int .i64 y.c, .int .i64 y.l, .int .i64 y.w, .int .i64 y.lo, .int .i64 y.hi], .slice (some ⟨b, o, none⟩) n ca] W fun e W' => e = .returned (.int .i64 (nr (fun j => D j k) n)) ∧ Below W.heap.size W W') := fun W hW => rnear_of W y _ n ca f (fun j => D j k) hn24 (HSa.out.keep (by decide) hW) hoky HFa.out HDY.out
            have HDI : Hid (∀ W, Calls Tryz.prog 60 #[.agg #[.int .i64 x.a, .int .i64 x.c, .int .i64 x.l, .int .i64 x.w, .int .i64 x.lo, .int .i64 x.hi], .agg #[.int .i64 y.a, .int .i64 y.c, .int .i64 y.l, .int .i64 y.w, .int .i64 y.lo, .int .i64 y.hi]] W fun e W' => e = .returned (.int .i64 (D i k)) ∧ Below W.heap.size W W') := fun W => by rw [hdk]; exact rdist_of W x y HOKX.out hoky
            have HIP2 : Hid (isP D n m near i = (decide (nr (fun j => D j k) n = (i : Int)) && decide (D i k ≤ near))) := by
              rw [HIP.out, decide_eq_true h0, Bool.true_and]; exact Lib.hid rfl
            have HST2 : Hid (rcU D n m near (i + 1) = if isP D n m near i = true then rcU D n m near i ++ [(i, k)] else rcU D n m near i) := HST.out
            obtain ⟨r, hr⟩ : ∃ r, nr (fun j => D j k) n = r := ⟨_, rfl⟩
            obtain ⟨q, hq⟩ : ∃ q, D i k = q := ⟨_, rfl⟩
            rw [hr] at HQ HIP2
            rw [hq] at HDI HIP2
            clear hr hq hdk HIP HST HDY
            have KD : Hid (Ints V1.drew b o (n * 6) f) := HI3.out
            have KE : Hid (Ints V1.drew b2 o2 (m * 6) h) := HI2.out
            have HBd : Hid (Below w.heap.size w V1.drew) := HB3.out.drew
            have HOd : Hid (V1.drew.ownsRow w.heap.size 64 2 _ (rcU D n m near i).length (prw (rcU D n m near i))) := HO3.out
            obtain ⟨u0, u1, u2, u3, u4, u5⟩ := Fd.get (w := V1.drew) KD.out (i := i) hlt
            rw [hx] at u0 u1 u2 u3 u4 u5
            obtain ⟨v0, v1, v2, v3, v4, v5⟩ := Fd.get (w := V1.drew) KE.out (i := k) hkm2
            rw [hy] at v0 v1 v2 v3 v4 v5
            by_cases hri : r = (i : Int)
            · have hre : (r == (i : Int)) = true := by rw [hri]; simp
              subst hri
              go_region_held3 (fun W' => W'.cell? ⟨b, o + i * 6, none⟩ = some (.int .i64 x.a) ∧ W'.cell? ⟨b, o + i * 6 + 1, none⟩ = some (.int .i64 x.c) ∧ W'.cell? ⟨b, o + i * 6 + 2, none⟩ = some (.int .i64 x.l) ∧ W'.cell? ⟨b, o + i * 6 + 3, none⟩ = some (.int .i64 x.w) ∧ W'.cell? ⟨b, o + i * 6 + 4, none⟩ = some (.int .i64 x.lo) ∧ W'.cell? ⟨b, o + i * 6 + 5, none⟩ = some (.int .i64 x.hi) ∧ W'.cell? ⟨b2, o2 + k * 6, none⟩ = some (.int .i64 y.a) ∧ W'.cell? ⟨b2, o2 + k * 6 + 1, none⟩ = some (.int .i64 y.c) ∧ W'.cell? ⟨b2, o2 + k * 6 + 2, none⟩ = some (.int .i64 y.l) ∧ W'.cell? ⟨b2, o2 + k * 6 + 3, none⟩ = some (.int .i64 y.w) ∧ W'.cell? ⟨b2, o2 + k * 6 + 4, none⟩ = some (.int .i64 y.lo) ∧ W'.cell? ⟨b2, o2 + k * 6 + 5, none⟩ = some (.int .i64 y.hi)) (first | (with_reducible assumption) | go_keep) (first | (go_at_call 59; refine (HQ.out _ (by first | exact HBd.out | exact HBd.out.drew)).mono ?_; rintro e Va ⟨rfl, hB⟩; have HBa := Lib.hid (low_trans (by first | exact HBd.out | exact HBd.out.drew) hB); have HOa := Lib.hid (own_keep (by exact HOd.out) hB); have IAa := Lib.hid (Ints.keep (by exact KD.out) hB (Ints.lt (by exact KD.out) (by omega))); have IBa := Lib.hid (Ints.keep (by exact KE.out) hB (Ints.lt (by exact KE.out) (by omega))); clear u0 u1 u2 u3 u4 u5 v0 v1 v2 v3 v4 v5; obtain ⟨u0, u1, u2, u3, u4, u5⟩ := Fd.get (w := Va) IAa.out (i := i) hlt; rw [hx] at u0 u1 u2 u3 u4 u5; obtain ⟨v0, v1, v2, v3, v4, v5⟩ := Fd.get (w := Va) IBa.out (i := k) hkm2; rw [hy] at v0 v1 v2 v3 v4 v5; clear hB) | (go_at_call 60; refine (HDI.out _).mono ?_; rintro e Vb ⟨rfl, hB⟩; have HBb := Lib.hid (low_trans (by first | exact HBa.out | exact HBa.out.drew) hB); have HOb := Lib.hid (own_keep (by exact HOa.out) hB); have IAb := Lib.hid (Ints.keep (by exact IAa.out) hB (Ints.lt (by exact IAa.out) (by omega))); have IBb := Lib.hid (Ints.keep (by exact IBa.out) hB (Ints.lt (by exact IBa.out) (by omega))); clear u0 u1 u2 u3 u4 u5 v0 v1 v2 v3 v4 v5; obtain ⟨u0, u1, u2, u3, u4, u5⟩ := Fd.get (w := Vb) IAb.out (i := i) hlt; rw [hx] at u0 u1 u2 u3 u4 u5; obtain ⟨v0, v1, v2, v3, v4, v5⟩ := Fd.get (w := Vb) IBb.out (i := k) hkm2; rw [hy] at v0 v1 v2 v3 v4 v5; clear hB))
              all_goals
                by_cases hqn : q ≤ near
                · have HE : Hid (rcU D n m near (i + 1) = rcU D n m near i ++ [(i, k)]) := by rw [HST2.out, HIP2.out, if_pos (by simp [hqn])]; exact Lib.hid rfl
                  clear HST2 HIP2 u0 u1 u2 u3 u4 u5 v0 v1 v2 v3 v4 v5 HQ HDI
                  obtain ⟨i0, hi0, hz0, hz1, hz2⟩ := info_parts x_pair
                  obtain ⟨ln, hln⟩ : ∃ z, (rcU D n m near i).length = z := ⟨_, rfl⟩
                  have hln2 : ln ≤ 24 := by have := len_rcU D n m near i; omega
                  rw [hln] at HOb
                  obtain ⟨LL, hLL⟩ : ∃ z, rcU D n m near i = z := ⟨_, rfl⟩
                  rw [hLL] at HOb HE hln
                  clear hLL
                  have h47 := HOb.out.1
                  go_upto_region 14 with (at_builtin; refine wpList_append_own _ rfl _ _ 60 rfl w.heap.size 64 i0 (.agg #[.int .i64 0, .int .i64 0]) 2 16 Tryz.underlying60 hi0 hz0 hz1 hz2 rfl (by decide) _ ln _ rfl (HOb.out.alloc _) ⟨_, 0, none⟩ 1 1 [.int .i64 (i : Int), .int .i64 (k : Int)] rfl rfl (cell_two _ _ _ _) (by simp [Value.oneCell']) (by unfold maxLen; omega) (by omega) (by simp; have := HBb.out.size; omega) ?_; intro v1 W1' hown1 hgrow1 hnil1; clear hnil1; have hb1 : Below w.heap.size _ W1' := ((Below.refl _ _).alloc (by have := HBb.out.size; omega) _).grown hgrow1 (by simp; have := HBb.out.size; omega) (fun j hj => (HOb.out.lt j hj).1); have HO9 : Hid (W1'.ownsRow w.heap.size 64 2 v1 (LL ++ [(i, k)]).length (prw (LL ++ [(i, k)]))) := (by rw [prw_snoc, List.length_append, hln]; exact hown1); have HB9 := Lib.hid (HBb.out.trans hb1); clear hown1 hgrow1 hb1 HOb HBb h47)
                  go_wp2_with fail
                  exact ⟨⟨i + 1, by omega, by go_num, by rw [HE.out]; exact HO9, HB9⟩, by simp [intOf]; omega⟩
                · have HE : Hid (rcU D n m near (i + 1) = rcU D n m near i) := by rw [HST2.out, HIP2.out, if_neg (by simp [hqn])]; exact Lib.hid rfl
                  clear HST2 HIP2 u0 u1 u2 u3 u4 u5 v0 v1 v2 v3 v4 v5 HQ HDI
                  go_wp2_with fail
                  exact ⟨⟨i + 1, by omega, by go_num, by rw [HE.out]; exact HOb, HBb⟩, by simp [intOf]; omega⟩
            · have HE : Hid (rcU D n m near (i + 1) = rcU D n m near i) := by rw [HST2.out, HIP2.out, if_neg (by simp [hri])]; exact Lib.hid rfl
              have hre : (r == (i : Int)) = false := by simpa using hri
              have hF1 : ∀ f, Fence.wide.fn f := fun _ => trivial
              have hS0 : V1.drew.cell? ⟨b2, o2 + k * 6, none⟩ = some (.int .i64 y.a) ∧ V1.drew.cell? ⟨b2, o2 + k * 6 + 1, none⟩ = some (.int .i64 y.c) ∧ V1.drew.cell? ⟨b2, o2 + k * 6 + 2, none⟩ = some (.int .i64 y.l) ∧ V1.drew.cell? ⟨b2, o2 + k * 6 + 3, none⟩ = some (.int .i64 y.w) ∧ V1.drew.cell? ⟨b2, o2 + k * 6 + 4, none⟩ = some (.int .i64 y.lo) ∧ V1.drew.cell? ⟨b2, o2 + k * 6 + 5, none⟩ = some (.int .i64 y.hi) := ⟨v0, v1, v2, v3, v4, v5⟩
              clear HDI u0 u1 u2 u3 u4 u5 v0 v1 v2 v3 v4 v5
              refine (wpIn_wide (n := 5)).1 ?_
              refine wpIn_region_I (fun W' : World => W'.cell? ⟨b2, o2 + k * 6, none⟩ = some (.int .i64 y.a) ∧ W'.cell? ⟨b2, o2 + k * 6 + 1, none⟩ = some (.int .i64 y.c) ∧ W'.cell? ⟨b2, o2 + k * 6 + 2, none⟩ = some (.int .i64 y.l) ∧ W'.cell? ⟨b2, o2 + k * 6 + 3, none⟩ = some (.int .i64 y.w) ∧ W'.cell? ⟨b2, o2 + k * 6 + 4, none⟩ = some (.int .i64 y.lo) ∧ W'.cell? ⟨b2, o2 + k * 6 + 5, none⟩ = some (.int .i64 y.hi)) (by kernel_rfl) ?_
              change anyI _ _ _ _ _ _ _ 25 (Array.replicate 25 false) _ _
              refine anyI_tkG hF1 0 76 (v := ?_) rfl rfl (by kernel_rfl) (by kernel_rfl) (by kernel_rfl) (by kernel_rfl) (fun _ _ _ h => h) hS0 (by rfl) ?_ ?_
              rotate_left
              · intro W2 hSw; obtain ⟨r0, r1, r2, r3, r4, r5⟩ := hSw; go_simp; try with_reducible rfl
              simp only [List.setIfInBounds_toArray, List.set_cons_zero, List.set_cons_succ]
              refine anyI_tkG hF1 1 77 (v := .bool true) rfl rfl (by kernel_rfl) (by kernel_rfl) (by kernel_rfl) (by kernel_rfl) (fun _ _ _ h => h) hS0 (by rfl) (fun W2 hSw => by go_simp; try with_reducible rfl) ?_
              simp only [List.setIfInBounds_toArray, List.set_cons_zero, List.set_cons_succ]
              refine anyI_tkG hF1 2 78 (v := ?_) rfl rfl (by kernel_rfl) (by kernel_rfl) (by kernel_rfl) (by kernel_rfl) (fun _ _ _ h => h) hS0 (by rfl) ?_ ?_
              rotate_left
              · intro W2 hSw; obtain ⟨r0, r1, r2, r3, r4, r5⟩ := hSw; go_simp; try with_reducible rfl
              simp only [List.setIfInBounds_toArray, List.set_cons_zero, List.set_cons_succ]
              refine anyI_tkG hF1 3 79 (v := ?_) rfl rfl (by kernel_rfl) (by kernel_rfl) (by kernel_rfl) (by kernel_rfl) (fun _ _ _ h => h) hS0 (by rfl) ?_ ?_
              rotate_left
              · intro W2 hSw; obtain ⟨r0, r1, r2, r3, r4, r5⟩ := hSw; go_simp; try with_reducible rfl
              simp only [List.setIfInBounds_toArray, List.set_cons_zero, List.set_cons_succ]
              refine anyI_tkG hF1 4 80 (v := ?_) rfl rfl (by kernel_rfl) (by kernel_rfl) (by kernel_rfl) (by kernel_rfl) (fun _ _ _ h => h) hS0 (by rfl) ?_ ?_
              rotate_left
              · intro W2 hSw; obtain ⟨r0, r1, r2, r3, r4, r5⟩ := hSw; go_simp; try with_reducible rfl
              simp only [List.setIfInBounds_toArray, List.set_cons_zero, List.set_cons_succ]
              refine anyI_tkG hF1 5 81 (v := ?_) rfl rfl (by kernel_rfl) (by kernel_rfl) (by kernel_rfl) (by kernel_rfl) (fun _ _ _ h => h) hS0 (by rfl) ?_ ?_
              rotate_left
              · intro W2 hSw; obtain ⟨r0, r1, r2, r3, r4, r5⟩ := hSw; go_simp; try with_reducible rfl
              simp only [List.setIfInBounds_toArray, List.set_cons_zero, List.set_cons_succ]
              refine anyI_tkG hF1 6 82 (v := ?_) rfl rfl (by kernel_rfl) (by kernel_rfl) (by kernel_rfl) (by kernel_rfl) (fun _ _ _ h => h) hS0 (by rfl) ?_ ?_
              rotate_left
              · intro W2 hSw; obtain ⟨r0, r1, r2, r3, r4, r5⟩ := hSw; go_simp; try with_reducible rfl
              simp only [List.setIfInBounds_toArray, List.set_cons_zero, List.set_cons_succ]
              refine anyI_tkG hF1 7 83 (v := ?_) rfl rfl (by kernel_rfl) (by kernel_rfl) (by kernel_rfl) (by kernel_rfl) (fun _ _ _ h => h) hS0 (by rfl) ?_ ?_
              rotate_left
              · intro W2 hSw; obtain ⟨r0, r1, r2, r3, r4, r5⟩ := hSw; go_simp; try with_reducible rfl
              simp only [List.setIfInBounds_toArray, List.set_cons_zero, List.set_cons_succ]
              refine anyI_tkG hF1 9 85 (v := ?_) rfl rfl (by kernel_rfl) (by kernel_rfl) (by kernel_rfl) (by kernel_rfl) (fun _ _ _ h => h) hS0 (by rfl) ?_ ?_
              rotate_left
              · intro W2 hSw; obtain ⟨r0, r1, r2, r3, r4, r5⟩ := hSw; go_simp; try with_reducible rfl
              simp only [List.setIfInBounds_toArray, List.set_cons_zero, List.set_cons_succ]
              refine anyI_call hF1 (fun h => absurd h (by decide)) 8 84 (w := V1.drew) rfl rfl (by kernel_rfl) (by kernel_rfl) (by rfl) (by go_simp; try with_reducible rfl) (callsIn_wide.2 (HQ.out _ HBd.out)) ?_
              rintro e9 Va ⟨rfl, hB⟩
              have HBa := Lib.hid (low_trans HBd.out hB)
              have HOa := Lib.hid (own_keep HOd.out hB)
              have IBa := Lib.hid (Ints.keep KE.out hB (Ints.lt KE.out (by omega)))
              obtain ⟨v0, v1, v2, v3, v4, v5⟩ := Fd.get (w := Va) IBa.out (i := k) hkm2
              rw [hy] at v0 v1 v2 v3 v4 v5
              have hS0 : Va.cell? ⟨b2, o2 + k * 6, none⟩ = some (.int .i64 y.a) ∧ Va.cell? ⟨b2, o2 + k * 6 + 1, none⟩ = some (.int .i64 y.c) ∧ Va.cell? ⟨b2, o2 + k * 6 + 2, none⟩ = some (.int .i64 y.l) ∧ Va.cell? ⟨b2, o2 + k * 6 + 3, none⟩ = some (.int .i64 y.w) ∧ Va.cell? ⟨b2, o2 + k * 6 + 4, none⟩ = some (.int .i64 y.lo) ∧ Va.cell? ⟨b2, o2 + k * 6 + 5, none⟩ = some (.int .i64 y.hi) := ⟨v0, v1, v2, v3, v4, v5⟩
              clear hB v0 v1 v2 v3 v4 v5
              refine ⟨_, rfl, hS0, ?_⟩
              simp only [List.setIfInBounds_toArray, List.set_cons_zero, List.set_cons_succ]
              refine anyI_tkG hF1 10 86 (v := .bool false) rfl rfl (by kernel_rfl) (by kernel_rfl) (by kernel_rfl) (by kernel_rfl) (fun _ _ _ h => h) hS0 (by rfl) (fun W2 hSw => by go_simp; try with_reducible rfl) ?_
              simp only [List.setIfInBounds_toArray, List.set_cons_zero, List.set_cons_succ]
              refine anyI_tkG hF1 11 87 (v := .bool false) rfl rfl (by kernel_rfl) (by kernel_rfl) (by kernel_rfl) (by kernel_rfl) (fun _ _ _ h => h) hS0 (by rfl) (fun W2 hSw => by go_simp; try with_reducible rfl) ?_
              simp only [List.setIfInBounds_toArray, List.set_cons_zero, List.set_cons_succ]
              refine anyI_tkG hF1 12 88 (v := .bool false) rfl rfl (by kernel_rfl) (by kernel_rfl) (by kernel_rfl) (by kernel_rfl) (fun _ _ _ h => h) hS0 (by rfl) (fun W2 hSw => by go_simp; try with_reducible rfl) ?_
              simp only [List.setIfInBounds_toArray, List.set_cons_zero, List.set_cons_succ]
              refine anyI_tkN hF1 13 89 rfl rfl (by kernel_rfl) (by kernel_rfl) (by kernel_rfl) (by kernel_rfl) (fun _ _ _ h => h) hS0 (by rfl) ?_
              simp only [List.setIfInBounds_toArray, List.set_cons_zero, List.set_cons_succ]
              refine anyI_tkN hF1 14 90 rfl rfl (by kernel_rfl) (by kernel_rfl) (by kernel_rfl) (by kernel_rfl) (fun _ _ _ h => h) hS0 (by rfl) ?_
              simp only [List.setIfInBounds_toArray, List.set_cons_zero, List.set_cons_succ]
              refine anyI_tkN hF1 15 91 rfl rfl (by kernel_rfl) (by kernel_rfl) (by kernel_rfl) (by kernel_rfl) (fun _ _ _ h => h) hS0 (by rfl) ?_
              simp only [List.setIfInBounds_toArray, List.set_cons_zero, List.set_cons_succ]
              refine anyI_tkN hF1 16 92 rfl rfl (by kernel_rfl) (by kernel_rfl) (by kernel_rfl) (by kernel_rfl) (fun _ _ _ h => h) hS0 (by rfl) ?_
              simp only [List.setIfInBounds_toArray, List.set_cons_zero, List.set_cons_succ]
              refine anyI_tkN hF1 17 93 rfl rfl (by kernel_rfl) (by kernel_rfl) (by kernel_rfl) (by kernel_rfl) (fun _ _ _ h => h) hS0 (by rfl) ?_
              simp only [List.setIfInBounds_toArray, List.set_cons_zero, List.set_cons_succ]
              refine anyI_tkN hF1 18 94 rfl rfl (by kernel_rfl) (by kernel_rfl) (by kernel_rfl) (by kernel_rfl) (fun _ _ _ h => h) hS0 (by rfl) ?_
              simp only [List.setIfInBounds_toArray, List.set_cons_zero, List.set_cons_succ]
              refine anyI_tkN hF1 19 95 rfl rfl (by kernel_rfl) (by kernel_rfl) (by kernel_rfl) (by kernel_rfl) (fun _ _ _ h => h) hS0 (by rfl) ?_
              simp only [List.setIfInBounds_toArray, List.set_cons_zero, List.set_cons_succ]
              refine anyI_tkN hF1 20 96 rfl rfl (by kernel_rfl) (by kernel_rfl) (by kernel_rfl) (by kernel_rfl) (fun _ _ _ h => h) hS0 (by rfl) ?_
              simp only [List.setIfInBounds_toArray, List.set_cons_zero, List.set_cons_succ]
              refine anyI_tkN hF1 22 98 rfl rfl (by kernel_rfl) (by kernel_rfl) (by kernel_rfl) (by kernel_rfl) (fun _ _ _ h => h) hS0 (by rfl) ?_
              simp only [List.setIfInBounds_toArray, List.set_cons_zero, List.set_cons_succ]
              refine anyI_pss hF1 21 97 rfl rfl (by kernel_rfl) (by rfl) hS0 ?_
              simp only [List.setIfInBounds_toArray, List.set_cons_zero, List.set_cons_succ]
              refine anyI_tkN hF1 23 99 rfl rfl (by kernel_rfl) (by kernel_rfl) (by kernel_rfl) (by kernel_rfl) (fun _ _ _ h => h) hS0 (by rfl) ?_
              simp only [List.setIfInBounds_toArray, List.set_cons_zero, List.set_cons_succ]
              refine anyI_tkG hF1 24 100 (v := .bool false) rfl rfl (by kernel_rfl) (by kernel_rfl) (by kernel_rfl) (by kernel_rfl) (fun _ _ _ h => h) hS0 (by rfl) (fun W2 hSw => by go_simp; try with_reducible rfl) ?_
              simp only [List.setIfInBounds_toArray, List.set_cons_zero, List.set_cons_succ]
              refine anyI_done (by kernel_rfl) ?_ _
              clear HST2 HIP2 HQ hS0
              go_wp2_with fail
              exact ⟨⟨i + 1, by omega, by go_num, by rw [HE.out]; exact HOa, HBa⟩, by simp [intOf]; omega⟩
          · have HE : Hid (rcU D n m near (i + 1) = rcU D n m near i) := by rw [HST.out, HIP.out, if_neg (by simp [h0])]; exact Lib.hid rfl
            have hb0 : bst < 0 := by omega
            clear HST HIP
            go_quiet (fail)
            have HBq := Lib.hid (below_drewN HB3.out nq)
            have HOq : Hid ((V1.drewN nq).ownsRow w.heap.size 64 2 _ (rcU D n m near i).length (prw (rcU D n m near i))) := HO3.out
            generalize V1.drewN nq = Wq at HBq HOq ⊢
            clear HB3 HO3 HI3
            go_wp2_with fail
            exact ⟨⟨i + 1, by omega, by go_num, by rw [HE.out]; exact HOq, HBq⟩, by simp [intOf]; omega⟩
        · obtain rfl : i = n := by omega
          have HO2 := HO
          go_wp2_with fail
          exact bodyPost_ret (v := .tuple #[_, .int .i64 0]) (by simp [results, Tryz.f26, go_sem]) rfl ⟨_, rfl, HO2.out, HB.out⟩
end Go.Proofs.YtmdniebedflpbaaGreatDoor
