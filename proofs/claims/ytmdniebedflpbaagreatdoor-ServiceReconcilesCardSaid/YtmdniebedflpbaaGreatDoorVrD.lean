/-
  WORDS: rows of pairs; WALKS: Reconcile (the program).
-/
import Derived.Test.YtmdniebedflpbaaGreatDoorVrC
import Derived.Test.YtmdniebedflpbaaGreatDoorVsH
import Derived.Test.YtmdniebedflpbaaGreatDoorVrV
namespace Go.Proofs.YtmdniebedflpbaaGreatDoor
open Go.RowKit

/-- Pairs, as cells. -/
def prw (L : List (Nat × Nat)) : List Value := L.flatMap fun p => [.int .i64 (p.1 : Int), .int .i64 (p.2 : Int)]
theorem prw_snoc (L : List (Nat × Nat)) (i k : Nat) : prw (L ++ [(i, k)]) = prw L ++ [.int .i64 (i : Int), .int .i64 (k : Int)] := by simp [prw]
theorem prw_len : ∀ L : List (Nat × Nat), (prw L).length = L.length * 2
  | [] => rfl
  | p :: L => by
    have := prw_len L
    simp only [prw, List.flatMap_cons, List.length_append, List.length_cons, List.length_nil] at this ⊢
    omega
theorem cell_two (w : World) (v u : Value) (t : TypeId) : ∀ j x, [v, u][j]? = some x → (w.alloc (.cells #[v, u] t)).cell? ((⟨w.heap.size, 0, none⟩ : Addr).add j) = some x := by
  intro j x h
  rw [show (⟨w.heap.size, 0, none⟩ : Addr).add j = ⟨w.heap.size, j, none⟩ by unfold Addr.add; split <;> simp_all]
  refine cell_h (new_heap w _) ?_
  simpa using h
theorem x_pair : (Tryz.prog.info? 64).map (fun i => (i.zero, i.size, i.bytes)) = some (some (.agg #[.int .i64 0, .int .i64 0]), 2, 16) := by kernel_rfl
/-- What Reconcile has to return. -/
def allOk (n : Nat) (f : Nat → Int) : Prop := ∀ i, i < n → (Fd.at f i).ok
def RcW (n m : Nat) (f h : Nat → Int) (near : Int) (L : List (Nat × Nat)) (E : Int) : Prop :=
  ((24 < n ∨ 24 < m) ∧ L = [] ∧ E = 4) ∨ (n ≤ 24 ∧ m ≤ 24 ∧ ¬ (allOk n f ∧ allOk m h) ∧ L = [] ∧ E = 1) ∨ (n ≤ 24 ∧ m ≤ 24 ∧ allOk n f ∧ allOk m h ∧ near < 0 ∧ L = [] ∧ E = 1) ∨
  (n ≤ 24 ∧ m ≤ 24 ∧ allOk n f ∧ allOk m h ∧ 0 ≤ near ∧ L = rcU (fun i k => dst (Fd.at f i) (Fd.at h k)) n m near n ∧ E = 0)
theorem rcW_some (n m : Nat) (f h : Nat → Int) (near : Int) : ∃ L E, RcW n m f h near L E := by
  by_cases h1 : 24 < n ∨ 24 < m
  · exact ⟨[], 4, .inl ⟨h1, rfl, rfl⟩⟩
  by_cases h2 : allOk n f ∧ allOk m h
  · by_cases h3 : near < 0
    · exact ⟨[], 1, .inr (.inr (.inl ⟨by omega, by omega, h2.1, h2.2, h3, rfl, rfl⟩))⟩
    · exact ⟨_, 0, .inr (.inr (.inr ⟨by omega, by omega, h2.1, h2.2, by omega, rfl, rfl⟩))⟩
  · exact ⟨[], 1, .inr (.inl ⟨by omega, by omega, h2, rfl, rfl⟩)⟩
def RcEnd (w : World) (L : List (Nat × Nat)) (E : Int) (e : Ending) (W : World) : Prop := ∃ v, e = .returned (.tuple #[v, .int .i64 E]) ∧ W.ownsRow w.heap.size 64 2 v L.length (prw L) ∧ Below w.heap.size w W

theorem two_lt {j : Nat} (h : j < 2) : j = 0 ∨ j = 1 := by omega
set_option maxRecDepth 100000 in
set_option maxHeartbeats 8000000 in
theorem check2_of (w : World) (a b : Option Addr) (n m ca cb : Nat) (f h : Nat → Int) (E : Int) (hn : n ≤ maxLen) (hm : m ≤ maxLen) (hSa : Sl w 6 a n f) (hSb : Sl w 6 b m h)
    (h4 : (24 < n ∨ 24 < m) → E = 4) (h1 : n ≤ 24 → m ≤ 24 → ¬ (allOk n f ∧ allOk m h) → E = 1) (h0 : n ≤ 24 → m ≤ 24 → allOk n f → allOk m h → E = 0) :
    Calls Tryz.prog 56 #[.slice (some ⟨w.heap.size, 0, none⟩) 2 2] (w.alloc (.cells #[.slice a n ca, .slice b m cb] 59)) fun e W => e = .returned (.int .i64 E) ∧ Below w.heap.size w W := by
  have hal : Below w.heap.size w (w.alloc (.cells #[.slice a n ca, .slice b m cb] 59)) := (Below.refl _ _).alloc (Nat.le_refl _) _
  refine (check_of _ w.heap.size (fun j => if j = 0 then a else b) (fun j => if j = 0 then n else m) (fun j => if j = 0 then ca else cb) (fun j => if j = 0 then f else h) E ?_ ?_ ?_ ?_ ?_ ?_).mono ?_
  · intro j hj
    rcases two_lt hj with rfl | rfl
    · exact cell_h (k := 0) (new_heap w _) rfl
    · exact cell_h (k := 1) (new_heap w _) rfl
  · intro j hj
    rcases two_lt hj with rfl | rfl
    · exact hSa.keep (by decide) hal
    · exact hSb.keep (by decide) hal
  · intro j hj
    rcases two_lt hj with rfl | rfl
    · exact hn
    · exact hm
  · rintro ⟨j, hj, hb⟩
    rcases two_lt hj with rfl | rfl
    · exact h4 (.inl hb)
    · exact h4 (.inr hb)
  · rintro hs ⟨j, hj, i, hi, hb⟩
    refine h1 (hs 0 (by decide)) (hs 1 (by decide)) ?_
    rintro ⟨g1, g2⟩
    rcases two_lt hj with rfl | rfl
    · exact hb (g1 i hi)
    · exact hb (g2 i hi)
  · intro hs hk
    exact h0 (hs 0 (by decide)) (hs 1 (by decide)) (hk 0 (by decide)) (hk 1 (by decide))
  · rintro e W ⟨rfl, hB⟩
    exact ⟨rfl, low_trans hal hB⟩

set_option maxRecDepth 100000 in
set_option maxHeartbeats 16000000 in
theorem rec_of (w : World) (a b' : Option Addr) (n m ca cb : Nat) (f h : Nat → Int) (near : Int) (L : List (Nat × Nat)) (E : Int) (hn : n ≤ maxLen) (hm : m ≤ maxLen) (hSa : Sl w 6 a n f) (hSb : Sl w 6 b' m h) (hW : RcW n m f h near L E) :
    Calls Tryz.prog 25 #[.slice a n ca, .slice b' m cb, .int .i64 near] w (RcEnd w L E) := by
  have HCK := fun E0 h4 h1 h0 => Lib.hid (check2_of w a b' n m ca cb f h E0 hn hm hSa hSb h4 h1 h0)
  rcases hW with ⟨hbig, rfl, rfl⟩ | ⟨hn24, hm24, hbad, rfl, rfl⟩ | ⟨hn24, hm24, hfa, hfb, hneg, rfl, rfl⟩ | ⟨hn24, hm24, hfa, hfb, hpos, rfl, rfl⟩
  · have H := HCK 4 (fun _ => rfl) (fun h1 h2 => by omega) (fun h1 h2 => by omega)
    clear HCK hSa hSb
    go_enter Tryz.func25, Tryz.ntmps25
    go_wp2_with fail
    refine H.out.mono ?_
    rintro e V ⟨rfl, hB⟩
    have HB := Lib.hid hB
    clear hB H
    go_wp2_with fail
    exact bodyPost_ret (v := .tuple #[.slice none 0 0, .int .i64 4]) (by simp [results, Tryz.f25, go_sem]) rfl ⟨_, rfl, World.ownsRow_nil _ _ _ _, HB.out⟩
  · have H := HCK 1 (fun h => by omega) (fun _ _ _ => rfl) (fun _ _ g1 g2 => absurd ⟨g1, g2⟩ hbad)
    clear HCK hSa hSb
    go_enter Tryz.func25, Tryz.ntmps25
    go_wp2_with fail
    refine H.out.mono ?_
    rintro e V ⟨rfl, hB⟩
    have HB := Lib.hid hB
    clear hB H
    go_wp2_with fail
    exact bodyPost_ret (v := .tuple #[.slice none 0 0, .int .i64 1]) (by simp [results, Tryz.f25, go_sem]) rfl ⟨_, rfl, World.ownsRow_nil _ _ _ _, HB.out⟩
  · have H := HCK 0 (fun h => by omega) (fun _ _ g => absurd ⟨hfa, hfb⟩ g) (fun _ _ _ _ => rfl)
    clear HCK hSa hSb
    go_enter Tryz.func25, Tryz.ntmps25
    go_wp2_with fail
    refine H.out.mono ?_
    rintro e V ⟨rfl, hB⟩
    have HB := Lib.hid hB
    clear hB H
    go_wp2_with fail
    exact bodyPost_ret (v := .tuple #[.slice none 0 0, .int .i64 1]) (by simp [results, Tryz.f25, go_sem]) rfl ⟨_, rfl, World.ownsRow_nil _ _ _ _, HB.out⟩
  · have H := HCK 0 (fun h => by omega) (fun _ _ g => absurd ⟨hfa, hfb⟩ g) (fun _ _ _ _ => rfl)
    clear HCK
    have HD : Hid (∀ i k, (fun i k => dst (Fd.at f i) (Fd.at h k)) i k = dst (Fd.at f i) (Fd.at h k)) := fun _ _ => rfl
    obtain ⟨D, hD⟩ : ∃ D, (fun i k => dst (Fd.at f i) (Fd.at h k)) = D := ⟨_, rfl⟩
    rw [hD] at HD ⊢
    clear hD
    have HSa := Lib.hid hSa
    have HSb := Lib.hid hSb
    have HFa : Hid (∀ i, i < n → (Fd.at f i).ok) := hfa
    have HFb : Hid (∀ i, i < m → (Fd.at h i).ok) := hfb
    clear hSa hSb hfa hfb
    have hneg : ¬ near < 0 := by omega
    go_enter Tryz.func25, Tryz.ntmps25
    go_wp2_with fail
    refine H.out.mono ?_
    rintro e V ⟨rfl, hB⟩
    have HBs := Lib.hid hB
    clear hB H
    go_wp2_with fail
    go_loopw [9, 10, 11, 12, 24] (fun v9 v10 v11 v12 v24 wr => ∃ i : Nat, i ≤ n ∧ v24 = .int .i64 (i : Int) ∧ Hid (wr.ownsRow w.heap.size 64 2 v9 (rcU D n m near i).length (prw (rcU D n m near i))) ∧ Hid (Below w.heap.size w wr)) (fun _ _ _ _ v24 _ => n - (intOf v24).toNat)
    case atStart => exact ⟨0, by omega, rfl, Lib.hid (World.ownsRow_nil _ _ _ _), HBs⟩
    case round =>
      obtain ⟨i, hi, rfl, HO, HB⟩ := hrel
      by_cases hlt : i < n
      · have hin : (i : Int) < (n : Int) := by omega
        have hwi : IntKind.i64.wrap ((i : Int) + 1) = (i : Int) + 1 := IntWalk.i64_in _ (by omega)
        obtain ⟨b, o, rfl, hI⟩ := HSa.out (by omega)
        have HI := Lib.hid (hI.keep HB.out (hI.lt (by omega)))
        clear hI
        have hokx := HFa.out i hlt
        obtain ⟨x, hx⟩ : ∃ x, Fd.at f i = x := ⟨_, rfl⟩
        rw [hx] at hokx
        have HOKX := Lib.hid hokx
        have HDX : Hid (∀ k, k < m → D i k = dst x (Fd.at h k)) := fun k _ => by rw [← hx]; exact HD.out i k
        clear hokx
        obtain ⟨d0, d1, d2, d3, d4, d5⟩ := Fd.get HI.out hlt
        rw [hx] at d0 d1 d2 d3 d4 d5
        go_upto_region 10 with fail
        have HI1 := Lib.hid (HI.out.keep ((Below.refl _ _).alloc (Nat.le_refl _) (.cells #[.int .i64 x.a, .int .i64 x.c, .int .i64 x.l, .int .i64 x.w, .int .i64 x.lo, .int .i64 x.hi] 112)) (HI.out.lt (by omega)))
        have k2 : Fb (wr.alloc (.cells #[.int .i64 x.a, .int .i64 x.c, .int .i64 x.l, .int .i64 x.w, .int .i64 x.lo, .int .i64 x.hi] 112)) wr.heap.size x := new_heap _ _
        have HB1 := Lib.hid (HB.out.alloc HB.out.size (.cells #[.int .i64 x.a, .int .i64 x.c, .int .i64 x.l, .int .i64 x.w, .int .i64 x.lo, .int .i64 x.hi] 112))
        have HO1 := Lib.hid (own_keep HO.out ((Below.refl _ _).alloc (Nat.le_refl _) (.cells #[.int .i64 x.a, .int .i64 x.c, .int .i64 x.l, .int .i64 x.w, .int .i64 x.lo, .int .i64 x.hi] 112)))
        generalize wr.alloc (.cells #[.int .i64 x.a, .int .i64 x.c, .int .i64 x.l, .int .i64 x.w, .int .i64 x.lo, .int .i64 x.hi] 112) = W1 at k2 HB1 HI1 HO1 ⊢
        obtain ⟨g7, hg⟩ : ∃ g7, wr.heap.size = g7 := ⟨_, rfl⟩
        rw [hg] at k2 ⊢
        have K2 := Lib.hid k2
        clear k2 hg d0 d1 d2 d3 d4 d5 HI HB HO
        have s0 : W1.cell? ⟨g7, 0, none⟩ = some (.int .i64 x.a) := cell_h (k := 0) K2.out rfl
        have s1 : W1.cell? ⟨g7, 1, none⟩ = some (.int .i64 x.c) := cell_h (k := 1) K2.out rfl
        have s2 : W1.cell? ⟨g7, 2, none⟩ = some (.int .i64 x.l) := cell_h (k := 2) K2.out rfl
        have s3 : W1.cell? ⟨g7, 3, none⟩ = some (.int .i64 x.w) := cell_h (k := 3) K2.out rfl
        have s4 : W1.cell? ⟨g7, 4, none⟩ = some (.int .i64 x.lo) := cell_h (k := 4) K2.out rfl
        have s5 : W1.cell? ⟨g7, 5, none⟩ = some (.int .i64 x.hi) := cell_h (k := 5) K2.out rfl
        go_wp2_with fail
        refine (vnear_of _ x b' m cb h (D i) hm24 (HSb.out.keep (by decide) HB1.out) HOKX.out HFb.out HDX.out).mono ?_
        rintro e V1 ⟨rfl, hB⟩
        have K3 := Lib.hid (K2.out.keep hB)
        have HI3 := Lib.hid (HI1.out.keep hB (HI1.out.lt (by omega)))
        have HB3 := Lib.hid (low_trans HB1.out hB)
        have HO3 := Lib.hid (own_keep HO1.out hB)
        clear hB s0 s1 s2 s3 s4 s5 K2 HI1 HB1 HO1
        go_upto_region 11 with fail
        have hst : rcU D n m near (i + 1) = if isP D n m near i = true then rcU D n m near i ++ [(i, (nr (D i) m).toNat)] else rcU D n m near i := rfl
        have hip : isP D n m near i = (decide (0 ≤ nr (D i) m) && decide (nr (fun j => D j (nr (D i) m).toNat) n = (i : Int)) && decide (D i (nr (D i) m).toNat ≤ near)) := rfl
        have hnge := nr_ge (D i) m
        have hnlt := nr_lt (D i) m
        obtain ⟨bst, hbst⟩ : ∃ z, nr (D i) m = z := ⟨_, rfl⟩
        rw [hbst] at hst hip hnge hnlt ⊢
        have HST := Lib.hid hst
        have HIP := Lib.hid hip
        clear hbst hst hip
        by_cases h0 : 0 ≤ bst
        · obtain ⟨k, rfl⟩ := Int.eq_ofNat_of_zero_le h0
          have hkm : (k : Int) < (m : Int) := by omega
          have hkm2 : k < m := by omega
          have hk0 : (k : Int) ≥ 0 := h0
          have hoky := HFb.out k hkm2
          have hdk : D i k = dst x (Fd.at h k) := HDX.out k hkm2
          have HDY : Hid (∀ j, j < n → D j k = dst (Fd.at h k) (Fd.at f j)) := fun j _ => by rw [dst_comm]; exact HD.out j k
          obtain ⟨y, hy⟩ : ∃ y, Fd.at h k = y := ⟨_, rfl⟩
          rw [hy] at hoky hdk HDY
          obtain ⟨b2, o2, hb2, hI2⟩ := HSb.out (by omega)
          have HI2 := Lib.hid (hI2.keep HB3.out (hI2.lt (by omega)))
          clear hI2
          subst hb2
          have HQ : Hid (∀ W, Below w.heap.size w W → Calls Tryz.prog 57 #[.agg #[.int .i64 y.a, .int .i64 y.c, .int .i64 y.l, .int .i64 y.w, .int .i64 y.lo, .int .i64 y.hi], .slice (some ⟨b, o, none⟩) n ca] W fun e W' => e = .returned (.int .i64 (nr (fun j => D j k) n)) ∧ Below W.heap.size W W') := fun W hW => vnear_of W y _ n ca f (fun j => D j k) hn24 (HSa.out.keep (by decide) hW) hoky HFa.out HDY.out
          have HDI : Hid (∀ W, Calls Tryz.prog 58 #[.agg #[.int .i64 x.a, .int .i64 x.c, .int .i64 x.l, .int .i64 x.w, .int .i64 x.lo, .int .i64 x.hi], .agg #[.int .i64 y.a, .int .i64 y.c, .int .i64 y.l, .int .i64 y.w, .int .i64 y.lo, .int .i64 y.hi]] W fun e W' => e = .returned (.int .i64 (D i k)) ∧ Below W.heap.size W W') := fun W => by rw [hdk]; exact vdist_of W x y HOKX.out hoky
          have HIP2 : Hid (isP D n m near i = (decide (nr (fun j => D j k) n = (i : Int)) && decide (D i k ≤ near))) := by
            rw [HIP.out, decide_eq_true h0, Bool.true_and]; exact Lib.hid rfl
          have HST2 : Hid (rcU D n m near (i + 1) = if isP D n m near i = true then rcU D n m near i ++ [(i, k)] else rcU D n m near i) := HST.out
          obtain ⟨r, hr⟩ : ∃ r, nr (fun j => D j k) n = r := ⟨_, rfl⟩
          obtain ⟨q, hq⟩ : ∃ q, D i k = q := ⟨_, rfl⟩
          rw [hr] at HQ HIP2
          rw [hq] at HDI HIP2
          clear hr hq hdk HIP HST HDY
          have KD : Hid (Ints V1.drew b o (n * 6) f) := HI3.out
          have KE : Hid (Ints V1.drew b2 o2 (m * 6) h) := HI2.out
          have HBd : Hid (Below w.heap.size w V1.drew) := HB3.out.drew
          have HOd : Hid (V1.drew.ownsRow w.heap.size 64 2 _ (rcU D n m near i).length (prw (rcU D n m near i))) := HO3.out
          have K3d : Hid (Fb V1.drew g7 x) := K3.out
          have s0 : V1.drew.cell? ⟨g7, 0, none⟩ = some (.int .i64 x.a) := cell_h (k := 0) K3d.out rfl
          have s1 : V1.drew.cell? ⟨g7, 1, none⟩ = some (.int .i64 x.c) := cell_h (k := 1) K3d.out rfl
          have s2 : V1.drew.cell? ⟨g7, 2, none⟩ = some (.int .i64 x.l) := cell_h (k := 2) K3d.out rfl
          have s3 : V1.drew.cell? ⟨g7, 3, none⟩ = some (.int .i64 x.w) := cell_h (k := 3) K3d.out rfl
          have s4 : V1.drew.cell? ⟨g7, 4, none⟩ = some (.int .i64 x.lo) := cell_h (k := 4) K3d.out rfl
          have s5 : V1.drew.cell? ⟨g7, 5, none⟩ = some (.int .i64 x.hi) := cell_h (k := 5) K3d.out rfl
          obtain ⟨v0, v1, v2, v3, v4, v5⟩ := Fd.get (w := V1.drew) KE.out (i := k) hkm2
          rw [hy] at v0 v1 v2 v3 v4 v5
          by_cases hri : r = (i : Int)
          · have hre : (r == (i : Int)) = true := by rw [hri]; simp
            subst hri
            go_region_held3 (fun W' => W'.cell? ⟨g7, 0, none⟩ = some (.int .i64 x.a) ∧ W'.cell? ⟨g7, 1, none⟩ = some (.int .i64 x.c) ∧ W'.cell? ⟨g7, 2, none⟩ = some (.int .i64 x.l) ∧ W'.cell? ⟨g7, 3, none⟩ = some (.int .i64 x.w) ∧ W'.cell? ⟨g7, 4, none⟩ = some (.int .i64 x.lo) ∧ W'.cell? ⟨g7, 5, none⟩ = some (.int .i64 x.hi) ∧ W'.cell? ⟨b2, o2 + k * 6, none⟩ = some (.int .i64 y.a) ∧ W'.cell? ⟨b2, o2 + k * 6 + 1, none⟩ = some (.int .i64 y.c) ∧ W'.cell? ⟨b2, o2 + k * 6 + 2, none⟩ = some (.int .i64 y.l) ∧ W'.cell? ⟨b2, o2 + k * 6 + 3, none⟩ = some (.int .i64 y.w) ∧ W'.cell? ⟨b2, o2 + k * 6 + 4, none⟩ = some (.int .i64 y.lo) ∧ W'.cell? ⟨b2, o2 + k * 6 + 5, none⟩ = some (.int .i64 y.hi)) (first | (with_reducible assumption) | go_keep) (first | (go_at_call 57; refine (HQ.out _ (by first | exact HBd.out | exact HBd.out.drew)).mono ?_; rintro e Va ⟨rfl, hB⟩; have HBa := Lib.hid (low_trans (by first | exact HBd.out | exact HBd.out.drew) hB); have HOa := Lib.hid (own_keep (by exact HOd.out) hB); have KAa := Lib.hid (Fb.keep (by exact K3d.out) hB); have IAa := Lib.hid (Ints.keep (by exact KD.out) hB (Ints.lt (by exact KD.out) (by omega))); have IBa := Lib.hid (Ints.keep (by exact KE.out) hB (Ints.lt (by exact KE.out) (by omega))); clear s0 s1 s2 s3 s4 s5 v0 v1 v2 v3 v4 v5; have s0 : Va.cell? ⟨g7, 0, none⟩ = some (.int .i64 x.a) := cell_h (k := 0) KAa.out rfl; have s1 : Va.cell? ⟨g7, 1, none⟩ = some (.int .i64 x.c) := cell_h (k := 1) KAa.out rfl; have s2 : Va.cell? ⟨g7, 2, none⟩ = some (.int .i64 x.l) := cell_h (k := 2) KAa.out rfl; have s3 : Va.cell? ⟨g7, 3, none⟩ = some (.int .i64 x.w) := cell_h (k := 3) KAa.out rfl; have s4 : Va.cell? ⟨g7, 4, none⟩ = some (.int .i64 x.lo) := cell_h (k := 4) KAa.out rfl; have s5 : Va.cell? ⟨g7, 5, none⟩ = some (.int .i64 x.hi) := cell_h (k := 5) KAa.out rfl; obtain ⟨v0, v1, v2, v3, v4, v5⟩ := Fd.get (w := Va) IBa.out (i := k) hkm2; rw [hy] at v0 v1 v2 v3 v4 v5; clear hB) | (go_at_call 58; refine (HDI.out _).mono ?_; rintro e Vb ⟨rfl, hB⟩; have HBb := Lib.hid (low_trans (by first | exact HBa.out | exact HBa.out.drew) hB); have HOb := Lib.hid (own_keep (by exact HOa.out) hB); have KAb := Lib.hid (Fb.keep (by exact KAa.out) hB); have IAb := Lib.hid (Ints.keep (by exact IAa.out) hB (Ints.lt (by exact IAa.out) (by omega))); have IBb := Lib.hid (Ints.keep (by exact IBa.out) hB (Ints.lt (by exact IBa.out) (by omega))); clear s0 s1 s2 s3 s4 s5 v0 v1 v2 v3 v4 v5; have s0 : Vb.cell? ⟨g7, 0, none⟩ = some (.int .i64 x.a) := cell_h (k := 0) KAb.out rfl; have s1 : Vb.cell? ⟨g7, 1, none⟩ = some (.int .i64 x.c) := cell_h (k := 1) KAb.out rfl; have s2 : Vb.cell? ⟨g7, 2, none⟩ = some (.int .i64 x.l) := cell_h (k := 2) KAb.out rfl; have s3 : Vb.cell? ⟨g7, 3, none⟩ = some (.int .i64 x.w) := cell_h (k := 3) KAb.out rfl; have s4 : Vb.cell? ⟨g7, 4, none⟩ = some (.int .i64 x.lo) := cell_h (k := 4) KAb.out rfl; have s5 : Vb.cell? ⟨g7, 5, none⟩ = some (.int .i64 x.hi) := cell_h (k := 5) KAb.out rfl; obtain ⟨v0, v1, v2, v3, v4, v5⟩ := Fd.get (w := Vb) IBb.out (i := k) hkm2; rw [hy] at v0 v1 v2 v3 v4 v5; clear hB))
            all_goals
              by_cases hqn : q ≤ near
              · have HE : Hid (rcU D n m near (i + 1) = rcU D n m near i ++ [(i, k)]) := by rw [HST2.out, HIP2.out, if_pos (by simp [hqn])]; exact Lib.hid rfl
                clear HST2 HIP2 s0 s1 s2 s3 s4 s5 v0 v1 v2 v3 v4 v5 HQ HDI
                obtain ⟨i0, hi0, hz0, hz1, hz2⟩ := info_parts x_pair
                obtain ⟨ln, hln⟩ : ∃ z, (rcU D n m near i).length = z := ⟨_, rfl⟩
                have hln2 : ln ≤ 24 := by have := len_rcU D n m near i; omega
                rw [hln] at HOb
                obtain ⟨LL, hLL⟩ : ∃ z, rcU D n m near i = z := ⟨_, rfl⟩
                rw [hLL] at HOb HE hln
                clear hLL
                have h47 := HOb.out.1
                go_upto_region 13 with (at_builtin; refine wpList_append_own _ rfl _ _ 60 rfl w.heap.size 64 i0 (.agg #[.int .i64 0, .int .i64 0]) 2 16 Tryz.underlying60 hi0 hz0 hz1 hz2 rfl (by decide) _ ln _ rfl (HOb.out.alloc _) ⟨_, 0, none⟩ 1 1 [.int .i64 (i : Int), .int .i64 (k : Int)] rfl rfl (cell_two _ _ _ _) (by simp [Value.oneCell']) (by unfold maxLen; omega) (by omega) (by simp; have := HBb.out.size; omega) ?_; intro v1 W1' hown1 hgrow1 hnil1; clear hnil1; have hb1 : Below w.heap.size _ W1' := ((Below.refl _ _).alloc (by have := HBb.out.size; omega) _).grown hgrow1 (by simp; have := HBb.out.size; omega) (fun j hj => (HOb.out.lt j hj).1); have HO9 : Hid (W1'.ownsRow w.heap.size 64 2 v1 (LL ++ [(i, k)]).length (prw (LL ++ [(i, k)]))) := (by rw [prw_snoc, List.length_append, hln]; exact hown1); have HB9 := Lib.hid (HBb.out.trans hb1); clear hown1 hgrow1 hb1 HOb HBb h47)
                go_wp2_with fail
                exact ⟨⟨i + 1, by omega, by go_num, by rw [HE.out]; exact HO9, HB9⟩, by simp [intOf]; omega⟩
              · have HE : Hid (rcU D n m near (i + 1) = rcU D n m near i) := by rw [HST2.out, HIP2.out, if_neg (by simp [hqn])]; exact Lib.hid rfl
                clear HST2 HIP2 s0 s1 s2 s3 s4 s5 v0 v1 v2 v3 v4 v5 HQ HDI
                go_wp2_with fail
                exact ⟨⟨i + 1, by omega, by go_num, by rw [HE.out]; exact HOb, HBb⟩, by simp [intOf]; omega⟩
          · have HE : Hid (rcU D n m near (i + 1) = rcU D n m near i) := by rw [HST2.out, HIP2.out, if_neg (by simp [hri])]; exact Lib.hid rfl
            have hre : (r == (i : Int)) = false := by simpa using hri
            have hF1 : ∀ f, Fence.wide.fn f := fun _ => trivial
            have hS0 : V1.drew.cell? ⟨b2, o2 + k * 6, none⟩ = some (.int .i64 y.a) ∧ V1.drew.cell? ⟨b2, o2 + k * 6 + 1, none⟩ = some (.int .i64 y.c) ∧ V1.drew.cell? ⟨b2, o2 + k * 6 + 2, none⟩ = some (.int .i64 y.l) ∧ V1.drew.cell? ⟨b2, o2 + k * 6 + 3, none⟩ = some (.int .i64 y.w) ∧ V1.drew.cell? ⟨b2, o2 + k * 6 + 4, none⟩ = some (.int .i64 y.lo) ∧ V1.drew.cell? ⟨b2, o2 + k * 6 + 5, none⟩ = some (.int .i64 y.hi) := ⟨v0, v1, v2, v3, v4, v5⟩
            clear HDI s0 s1 s2 s3 s4 s5 v0 v1 v2 v3 v4 v5
            refine (wpIn_wide (n := 5)).1 ?_
            refine wpIn_region_I (fun W' : World => W'.cell? ⟨b2, o2 + k * 6, none⟩ = some (.int .i64 y.a) ∧ W'.cell? ⟨b2, o2 + k * 6 + 1, none⟩ = some (.int .i64 y.c) ∧ W'.cell? ⟨b2, o2 + k * 6 + 2, none⟩ = some (.int .i64 y.l) ∧ W'.cell? ⟨b2, o2 + k * 6 + 3, none⟩ = some (.int .i64 y.w) ∧ W'.cell? ⟨b2, o2 + k * 6 + 4, none⟩ = some (.int .i64 y.lo) ∧ W'.cell? ⟨b2, o2 + k * 6 + 5, none⟩ = some (.int .i64 y.hi)) (by kernel_rfl) ?_
            change anyI _ _ _ _ _ _ _ 22 (Array.replicate 22 false) _ _
            refine anyI_tkG hF1 0 32 (v := ?_) rfl rfl (by kernel_rfl) (by kernel_rfl) (by kernel_rfl) (by kernel_rfl) (fun _ _ _ h => h) hS0 (by rfl) ?_ ?_
            rotate_left
            · intro W2 hSw; obtain ⟨r0, r1, r2, r3, r4, r5⟩ := hSw; go_simp; try with_reducible rfl
            simp only [List.setIfInBounds_toArray, List.set_cons_zero, List.set_cons_succ]
            refine anyI_tkG hF1 1 33 (v := .bool true) rfl rfl (by kernel_rfl) (by kernel_rfl) (by kernel_rfl) (by kernel_rfl) (fun _ _ _ h => h) hS0 (by rfl) (fun W2 hSw => by go_simp; try with_reducible rfl) ?_
            simp only [List.setIfInBounds_toArray, List.set_cons_zero, List.set_cons_succ]
            refine anyI_tkG hF1 2 34 (v := ?_) rfl rfl (by kernel_rfl) (by kernel_rfl) (by kernel_rfl) (by kernel_rfl) (fun _ _ _ h => h) hS0 (by rfl) ?_ ?_
            rotate_left
            · intro W2 hSw; obtain ⟨r0, r1, r2, r3, r4, r5⟩ := hSw; go_simp; try with_reducible rfl
            simp only [List.setIfInBounds_toArray, List.set_cons_zero, List.set_cons_succ]
            refine anyI_tkG hF1 3 35 (v := ?_) rfl rfl (by kernel_rfl) (by kernel_rfl) (by kernel_rfl) (by kernel_rfl) (fun _ _ _ h => h) hS0 (by rfl) ?_ ?_
            rotate_left
            · intro W2 hSw; obtain ⟨r0, r1, r2, r3, r4, r5⟩ := hSw; go_simp; try with_reducible rfl
            simp only [List.setIfInBounds_toArray, List.set_cons_zero, List.set_cons_succ]
            refine anyI_tkG hF1 4 36 (v := ?_) rfl rfl (by kernel_rfl) (by kernel_rfl) (by kernel_rfl) (by kernel_rfl) (fun _ _ _ h => h) hS0 (by rfl) ?_ ?_
            rotate_left
            · intro W2 hSw; obtain ⟨r0, r1, r2, r3, r4, r5⟩ := hSw; go_simp; try with_reducible rfl
            simp only [List.setIfInBounds_toArray, List.set_cons_zero, List.set_cons_succ]
            refine anyI_tkG hF1 5 37 (v := ?_) rfl rfl (by kernel_rfl) (by kernel_rfl) (by kernel_rfl) (by kernel_rfl) (fun _ _ _ h => h) hS0 (by rfl) ?_ ?_
            rotate_left
            · intro W2 hSw; obtain ⟨r0, r1, r2, r3, r4, r5⟩ := hSw; go_simp; try with_reducible rfl
            simp only [List.setIfInBounds_toArray, List.set_cons_zero, List.set_cons_succ]
            refine anyI_tkG hF1 6 38 (v := ?_) rfl rfl (by kernel_rfl) (by kernel_rfl) (by kernel_rfl) (by kernel_rfl) (fun _ _ _ h => h) hS0 (by rfl) ?_ ?_
            rotate_left
            · intro W2 hSw; obtain ⟨r0, r1, r2, r3, r4, r5⟩ := hSw; go_simp; try with_reducible rfl
            simp only [List.setIfInBounds_toArray, List.set_cons_zero, List.set_cons_succ]
            refine anyI_tkG hF1 7 39 (v := ?_) rfl rfl (by kernel_rfl) (by kernel_rfl) (by kernel_rfl) (by kernel_rfl) (fun _ _ _ h => h) hS0 (by rfl) ?_ ?_
            rotate_left
            · intro W2 hSw; obtain ⟨r0, r1, r2, r3, r4, r5⟩ := hSw; go_simp; try with_reducible rfl
            simp only [List.setIfInBounds_toArray, List.set_cons_zero, List.set_cons_succ]
            refine anyI_tkG hF1 9 41 (v := ?_) rfl rfl (by kernel_rfl) (by kernel_rfl) (by kernel_rfl) (by kernel_rfl) (fun _ _ _ h => h) hS0 (by rfl) ?_ ?_
            rotate_left
            · intro W2 hSw; obtain ⟨r0, r1, r2, r3, r4, r5⟩ := hSw; go_simp; try with_reducible rfl
            simp only [List.setIfInBounds_toArray, List.set_cons_zero, List.set_cons_succ]
            refine anyI_call hF1 (fun h => absurd h (by decide)) 8 40 (w := V1.drew) rfl rfl (by kernel_rfl) (by kernel_rfl) (by rfl) (by go_simp; try with_reducible rfl) (callsIn_wide.2 (HQ.out _ HBd.out)) ?_
            rintro e9 Va ⟨rfl, hB⟩
            have HBa := Lib.hid (low_trans HBd.out hB)
            have HOa := Lib.hid (own_keep HOd.out hB)
            have IBa := Lib.hid (Ints.keep KE.out hB (Ints.lt KE.out (by omega)))
            obtain ⟨v0, v1, v2, v3, v4, v5⟩ := Fd.get (w := Va) IBa.out (i := k) hkm2
            rw [hy] at v0 v1 v2 v3 v4 v5
            have hS0 : Va.cell? ⟨b2, o2 + k * 6, none⟩ = some (.int .i64 y.a) ∧ Va.cell? ⟨b2, o2 + k * 6 + 1, none⟩ = some (.int .i64 y.c) ∧ Va.cell? ⟨b2, o2 + k * 6 + 2, none⟩ = some (.int .i64 y.l) ∧ Va.cell? ⟨b2, o2 + k * 6 + 3, none⟩ = some (.int .i64 y.w) ∧ Va.cell? ⟨b2, o2 + k * 6 + 4, none⟩ = some (.int .i64 y.lo) ∧ Va.cell? ⟨b2, o2 + k * 6 + 5, none⟩ = some (.int .i64 y.hi) := ⟨v0, v1, v2, v3, v4, v5⟩
            clear hB v0 v1 v2 v3 v4 v5
            refine ⟨_, rfl, hS0, ?_⟩
            simp only [List.setIfInBounds_toArray, List.set_cons_zero, List.set_cons_succ]
            refine anyI_tkG hF1 10 42 (v := .bool false) rfl rfl (by kernel_rfl) (by kernel_rfl) (by kernel_rfl) (by kernel_rfl) (fun _ _ _ h => h) hS0 (by rfl) (fun W2 hSw => by go_simp; try with_reducible rfl) ?_
            simp only [List.setIfInBounds_toArray, List.set_cons_zero, List.set_cons_succ]
            refine anyI_tkG hF1 11 43 (v := .bool false) rfl rfl (by kernel_rfl) (by kernel_rfl) (by kernel_rfl) (by kernel_rfl) (fun _ _ _ h => h) hS0 (by rfl) (fun W2 hSw => by go_simp; try with_reducible rfl) ?_
            simp only [List.setIfInBounds_toArray, List.set_cons_zero, List.set_cons_succ]
            refine anyI_tkG hF1 12 44 (v := .bool false) rfl rfl (by kernel_rfl) (by kernel_rfl) (by kernel_rfl) (by kernel_rfl) (fun _ _ _ h => h) hS0 (by rfl) (fun W2 hSw => by go_simp; try with_reducible rfl) ?_
            simp only [List.setIfInBounds_toArray, List.set_cons_zero, List.set_cons_succ]
            refine anyI_tkN hF1 13 45 rfl rfl (by kernel_rfl) (by kernel_rfl) (by kernel_rfl) (by kernel_rfl) (fun _ _ _ h => h) hS0 (by rfl) ?_
            simp only [List.setIfInBounds_toArray, List.set_cons_zero, List.set_cons_succ]
            refine anyI_tkN hF1 14 46 rfl rfl (by kernel_rfl) (by kernel_rfl) (by kernel_rfl) (by kernel_rfl) (fun _ _ _ h => h) hS0 (by rfl) ?_
            simp only [List.setIfInBounds_toArray, List.set_cons_zero, List.set_cons_succ]
            refine anyI_tkN hF1 15 47 rfl rfl (by kernel_rfl) (by kernel_rfl) (by kernel_rfl) (by kernel_rfl) (fun _ _ _ h => h) hS0 (by rfl) ?_
            simp only [List.setIfInBounds_toArray, List.set_cons_zero, List.set_cons_succ]
            refine anyI_tkN hF1 16 48 rfl rfl (by kernel_rfl) (by kernel_rfl) (by kernel_rfl) (by kernel_rfl) (fun _ _ _ h => h) hS0 (by rfl) ?_
            simp only [List.setIfInBounds_toArray, List.set_cons_zero, List.set_cons_succ]
            refine anyI_tkN hF1 17 49 rfl rfl (by kernel_rfl) (by kernel_rfl) (by kernel_rfl) (by kernel_rfl) (fun _ _ _ h => h) hS0 (by rfl) ?_
            simp only [List.setIfInBounds_toArray, List.set_cons_zero, List.set_cons_succ]
            refine anyI_tkN hF1 19 51 rfl rfl (by kernel_rfl) (by kernel_rfl) (by kernel_rfl) (by kernel_rfl) (fun _ _ _ h => h) hS0 (by rfl) ?_
            simp only [List.setIfInBounds_toArray, List.set_cons_zero, List.set_cons_succ]
            refine anyI_pss hF1 18 50 rfl rfl (by kernel_rfl) (by rfl) hS0 ?_
            simp only [List.setIfInBounds_toArray, List.set_cons_zero, List.set_cons_succ]
            refine anyI_tkN hF1 20 52 rfl rfl (by kernel_rfl) (by kernel_rfl) (by kernel_rfl) (by kernel_rfl) (fun _ _ _ h => h) hS0 (by rfl) ?_
            simp only [List.setIfInBounds_toArray, List.set_cons_zero, List.set_cons_succ]
            refine anyI_tkG hF1 21 53 (v := .bool false) rfl rfl (by kernel_rfl) (by kernel_rfl) (by kernel_rfl) (by kernel_rfl) (fun _ _ _ h => h) hS0 (by rfl) (fun W2 hSw => by go_simp; try with_reducible rfl) ?_
            simp only [List.setIfInBounds_toArray, List.set_cons_zero, List.set_cons_succ]
            refine anyI_done (by kernel_rfl) ?_ _
            clear HST2 HIP2 HQ hS0
            go_wp2_with fail
            exact ⟨⟨i + 1, by omega, by go_num, by rw [HE.out]; exact HOa, HBa⟩, by simp [intOf]; omega⟩
        · have HE : Hid (rcU D n m near (i + 1) = rcU D n m near i) := by rw [HST.out, HIP.out, if_neg (by simp [h0])]; exact Lib.hid rfl
          have hb0 : bst < 0 := by omega
          clear HST HIP
          go_quiet (fail)
          have HBq := Lib.hid (below_drewN HB3.out nq)
          have HOq : Hid ((V1.drewN nq).ownsRow w.heap.size 64 2 _ (rcU D n m near i).length (prw (rcU D n m near i))) := HO3.out
          generalize V1.drewN nq = Wq at HBq HOq ⊢
          clear HB3 HO3 HI3 K3
          go_wp2_with fail
          exact ⟨⟨i + 1, by omega, by go_num, by rw [HE.out]; exact HOq, HBq⟩, by simp [intOf]; omega⟩
      · obtain rfl : i = n := by omega
        have HO2 := HO
        go_wp2_with fail
        exact bodyPost_ret (v := .tuple #[_, .int .i64 0]) (by simp [results, Tryz.f25, go_sem]) rfl ⟨_, rfl, HO2.out, HB.out⟩
end Go.Proofs.YtmdniebedflpbaaGreatDoor
