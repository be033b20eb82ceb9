/-
  WALKS: nearest of both.
-/
import Derived.Test.YtmdniebedflpbaaGreatDoorVrA
namespace Go.Proofs.YtmdniebedflpbaaGreatDoor
open Go.RowKit

/-- The findings of a slice. -/
theorem Fd.get {w : World} {b o n : Nat} {f : Nat → Int} (h : Ints w b o (n * 6) f) {i : Nat} (hi : i < n) :
    w.cell? ⟨b, o + i * 6, none⟩ = some (.int .i64 (Fd.at f i).a) ∧ w.cell? ⟨b, o + i * 6 + 1, none⟩ = some (.int .i64 (Fd.at f i).c) ∧ w.cell? ⟨b, o + i * 6 + 2, none⟩ = some (.int .i64 (Fd.at f i).l) ∧
    w.cell? ⟨b, o + i * 6 + 3, none⟩ = some (.int .i64 (Fd.at f i).w) ∧ w.cell? ⟨b, o + i * 6 + 4, none⟩ = some (.int .i64 (Fd.at f i).lo) ∧ w.cell? ⟨b, o + i * 6 + 5, none⟩ = some (.int .i64 (Fd.at f i).hi) :=
  ⟨h (i * 6) (by omega), h.at (i * 6) 1 (by omega), h.at (i * 6) 2 (by omega), h.at (i * 6) 3 (by omega), h.at (i * 6) 4 (by omega), h.at (i * 6) 5 (by omega)⟩

set_option maxRecDepth 100000 in
set_option maxHeartbeats 16000000 in
theorem vnear_of (w : World) (x : Fd) (a : Option Addr) (n c : Nat) (f : Nat → Int) (d : Nat → Int) (hn : n ≤ 24) (hS : Sl w 6 a n f) (hx : x.ok) (hf : ∀ i, i < n → (Fd.at f i).ok) (hd : ∀ i, i < n → d i = dst x (Fd.at f i)) :
    Calls Tryz.prog 57 #[.agg x.cells, .slice a n c] w fun e W => e = .returned (.int .i64 (nr d n)) ∧ Below w.heap.size w W := by
  have HS := Lib.hid hS
  have HX := Lib.hid hx
  have HF := Lib.hid hf
  have HD := Lib.hid hd
  clear hS hx hf hd
  dsimp only [Fd.cells]
  go_enter Tryz.func57, Tryz.ntmps57
  go_upto_region 1 with fail
  have k0 : Fb _ w.heap.size x := new_heap w (.cells #[.int .i64 x.a, .int .i64 x.c, .int .i64 x.l, .int .i64 x.w, .int .i64 x.lo, .int .i64 x.hi] 112)
  have hB := (Below.refl w.heap.size w).alloc (Nat.le_refl _) (.cells #[.int .i64 x.a, .int .i64 x.c, .int .i64 x.l, .int .i64 x.w, .int .i64 x.lo, .int .i64 x.hi] 112)
  generalize w.alloc (.cells #[.int .i64 x.a, .int .i64 x.c, .int .i64 x.l, .int .i64 x.w, .int .i64 x.lo, .int .i64 x.hi] 112) = W0 at k0 hB ⊢
  have K0 := Lib.hid k0
  have HB0 := Lib.hid hB
  clear k0 hB
  go_wp2_with fail
  go_loopw [5, 6, 7, 10] (fun v5 v6 v7 v10 wr => ∃ i : Nat, i ≤ n ∧ v5 = .int .i64 (nr d i) ∧ v10 = .int .i64 (i : Int) ∧ Hid (Fb wr w.heap.size x) ∧ Hid (Below w.heap.size w wr)) (fun _ _ _ v10 _ => n - (intOf v10).toNat)
  case atStart => exact ⟨0, by omega, rfl, rfl, K0, HB0⟩
  case round =>
    obtain ⟨i, hi, rfl, rfl, K, HB⟩ := hrel
    by_cases hlt : i < n
    · have hin : (i : Int) < (n : Int) := by omega
      have hwi : IntKind.i64.wrap ((i : Int) + 1) = (i : Int) + 1 := IntWalk.i64_in _ (by omega)
      obtain ⟨b, o, rfl, hI⟩ := HS.out (by omega)
      have HI := Lib.hid (hI.keep HB.out (hI.lt (by omega)))
      clear hI
      have hok := HF.out i hlt
      have hdi := HD.out i hlt
      obtain ⟨y, hy⟩ : ∃ y, Fd.at f i = y := ⟨_, rfl⟩
      rw [hy] at hok hdi
      obtain ⟨d0, d1, d2, d3, d4, d5⟩ := Fd.get HI.out hlt
      rw [hy] at d0 d1 d2 d3 d4 d5
      go_upto_region 5 with fail
      have HI1 := Lib.hid (HI.out.keep ((Below.refl _ _).alloc (Nat.le_refl _) (.cells #[.int .i64 y.a, .int .i64 y.c, .int .i64 y.l, .int .i64 y.w, .int .i64 y.lo, .int .i64 y.hi] 112)) (HI.out.lt (by omega)))
      have k2 : Fb (wr.alloc (.cells #[.int .i64 y.a, .int .i64 y.c, .int .i64 y.l, .int .i64 y.w, .int .i64 y.lo, .int .i64 y.hi] 112)) wr.heap.size y := new_heap _ _
      have K1 : Hid (Fb (wr.alloc (.cells #[.int .i64 y.a, .int .i64 y.c, .int .i64 y.l, .int .i64 y.w, .int .i64 y.lo, .int .i64 y.hi] 112)) w.heap.size x) := al_old K.out _
      have HB1 := Lib.hid (HB.out.alloc HB.out.size (.cells #[.int .i64 y.a, .int .i64 y.c, .int .i64 y.l, .int .i64 y.w, .int .i64 y.lo, .int .i64 y.hi] 112))
      have hg7 : w.heap.size ≤ wr.heap.size := HB.out.size
      generalize wr.alloc (.cells #[.int .i64 y.a, .int .i64 y.c, .int .i64 y.l, .int .i64 y.w, .int .i64 y.lo, .int .i64 y.hi] 112) = W1 at k2 K1 HB1 HI1 ⊢
      obtain ⟨g7, hg⟩ : ∃ g7, wr.heap.size = g7 := ⟨_, rfl⟩
      rw [hg] at k2 ⊢
      have K2 := Lib.hid k2
      clear k2 hg d0 d1 d2 d3 d4 d5 HI K HB hg7
      have hnge := nr_ge d i
      have hnlt := nr_lt d i
      have HN : Hid (nr d (i + 1) = if nr d i < 0 ∨ d i < d (nr d i).toNat then (i : Int) else nr d i) := rfl
      obtain ⟨bst, hbst⟩ : ∃ z, nr d i = z := ⟨_, rfl⟩
      rw [hbst] at hnge hnlt HN ⊢
      clear hbst
      by_cases h0 : bst < 0
      · have hE : nr d (i + 1) = (i : Int) := by rw [HN.out, if_pos (.inl h0)]
        have HE := Lib.hid hE
        clear hE HN
        go_quiet (fail)
        have HBq := Lib.hid (below_drewN HB1.out nq)
        have Kq : Hid (Fb (W1.drewN nq) w.heap.size x) := K1.out
        generalize W1.drewN nq = Wq at HBq Kq ⊢
        clear HB1 K1 HI1 K2
        go_wp2_with fail
        exact ⟨⟨i + 1, by omega, by rw [HE.out], by go_num, Kq, HBq⟩, by simp [intOf]; omega⟩
      · obtain ⟨k, rfl⟩ := Int.eq_ofNat_of_zero_le (show 0 ≤ bst by omega)
        have hki : k < i := by omega
        have hkn : (k : Int) < (n : Int) := by omega
        have hk0 : ¬ (k : Int) < 0 := h0
        have hokk := HF.out k (by omega)
        have hdk := HD.out k (by omega)
        obtain ⟨z, hz⟩ : ∃ z, Fd.at f k = z := ⟨_, rfl⟩
        rw [hz] at hokk hdk
        have HC1 : Hid (∀ W, Calls Tryz.prog 58 #[.agg #[.int .i64 x.a, .int .i64 x.c, .int .i64 x.l, .int .i64 x.w, .int .i64 x.lo, .int .i64 x.hi], .agg #[.int .i64 y.a, .int .i64 y.c, .int .i64 y.l, .int .i64 y.w, .int .i64 y.lo, .int .i64 y.hi]] W fun e W' => e = .returned (.int .i64 (d i)) ∧ Below W.heap.size W W') := fun W => by rw [hdi]; exact vdist_of W x y HX.out hok
        have HC2 : Hid (∀ W, Calls Tryz.prog 58 #[.agg #[.int .i64 x.a, .int .i64 x.c, .int .i64 x.l, .int .i64 x.w, .int .i64 x.lo, .int .i64 x.hi], .agg #[.int .i64 z.a, .int .i64 z.c, .int .i64 z.l, .int .i64 z.w, .int .i64 z.lo, .int .i64 z.hi]] W fun e W' => e = .returned (.int .i64 (d k)) ∧ Below W.heap.size W W') := fun W => by rw [hdk]; exact vdist_of W x z HX.out hokk
        have HN2 : Hid (nr d (i + 1) = if d i < d k then (i : Int) else (k : Int)) := by
          rw [HN.out]
          show Hid ((if (k : Int) < 0 ∨ d i < d k then (i : Int) else (k : Int)) = _)
          by_cases h : d i < d k
          · rw [if_pos (.inr h), if_pos h]; exact Lib.hid rfl
          · rw [if_neg (by rintro (h' | h') <;> omega), if_neg h]; exact Lib.hid rfl
        obtain ⟨p, hp⟩ : ∃ p, d i = p := ⟨_, rfl⟩
        obtain ⟨q, hq⟩ : ∃ q, d k = q := ⟨_, rfl⟩
        rw [hp] at HC1 HN2
        rw [hq] at HC2 HN2
        clear HN hdi hdk hp hq hok hokk
        have HI1d : Hid (Ints W1.drew b o (n * 6) f) := HI1.out
        have K1d : Hid (Fb W1.drew w.heap.size x) := K1.out
        have K2d : Hid (Fb W1.drew g7 y) := K2.out
        have s0 : W1.drew.cell? ⟨w.heap.size, 0, none⟩ = some (.int .i64 x.a) := cell_h (k := 0) K1d.out rfl
        have s1 : W1.drew.cell? ⟨w.heap.size, 1, none⟩ = some (.int .i64 x.c) := cell_h (k := 1) K1d.out rfl
        have s2 : W1.drew.cell? ⟨w.heap.size, 2, none⟩ = some (.int .i64 x.l) := cell_h (k := 2) K1d.out rfl
        have s3 : W1.drew.cell? ⟨w.heap.size, 3, none⟩ = some (.int .i64 x.w) := cell_h (k := 3) K1d.out rfl
        have s4 : W1.drew.cell? ⟨w.heap.size, 4, none⟩ = some (.int .i64 x.lo) := cell_h (k := 4) K1d.out rfl
        have s5 : W1.drew.cell? ⟨w.heap.size, 5, none⟩ = some (.int .i64 x.hi) := cell_h (k := 5) K1d.out rfl
        have u0 : W1.drew.cell? ⟨g7, 0, none⟩ = some (.int .i64 y.a) := cell_h (k := 0) K2d.out rfl
        have u1 : W1.drew.cell? ⟨g7, 1, none⟩ = some (.int .i64 y.c) := cell_h (k := 1) K2d.out rfl
        have u2 : W1.drew.cell? ⟨g7, 2, none⟩ = some (.int .i64 y.l) := cell_h (k := 2) K2d.out rfl
        have u3 : W1.drew.cell? ⟨g7, 3, none⟩ = some (.int .i64 y.w) := cell_h (k := 3) K2d.out rfl
        have u4 : W1.drew.cell? ⟨g7, 4, none⟩ = some (.int .i64 y.lo) := cell_h (k := 4) K2d.out rfl
        have u5 : W1.drew.cell? ⟨g7, 5, none⟩ = some (.int .i64 y.hi) := cell_h (k := 5) K2d.out rfl
        obtain ⟨v0, v1, v2, v3, v4, v5⟩ := Fd.get (w := W1.drew) HI1d.out (i := k) (by omega)
        rw [hz] at v0 v1 v2 v3 v4 v5
        go_region_held3 (fun W' => W'.cell? ⟨w.heap.size, 0, none⟩ = some (.int .i64 x.a) ∧ W'.cell? ⟨w.heap.size, 1, none⟩ = some (.int .i64 x.c) ∧ W'.cell? ⟨w.heap.size, 2, none⟩ = some (.int .i64 x.l) ∧ W'.cell? ⟨w.heap.size, 3, none⟩ = some (.int .i64 x.w) ∧ W'.cell? ⟨w.heap.size, 4, none⟩ = some (.int .i64 x.lo) ∧ W'.cell? ⟨w.heap.size, 5, none⟩ = some (.int .i64 x.hi) ∧ W'.cell? ⟨g7, 0, none⟩ = some (.int .i64 y.a) ∧ W'.cell? ⟨g7, 1, none⟩ = some (.int .i64 y.c) ∧ W'.cell? ⟨g7, 2, none⟩ = some (.int .i64 y.l) ∧ W'.cell? ⟨g7, 3, none⟩ = some (.int .i64 y.w) ∧ W'.cell? ⟨g7, 4, none⟩ = some (.int .i64 y.lo) ∧ W'.cell? ⟨g7, 5, none⟩ = some (.int .i64 y.hi) ∧ W'.cell? ⟨b, o + k * 6, none⟩ = some (.int .i64 z.a) ∧ W'.cell? ⟨b, o + k * 6 + 1, none⟩ = some (.int .i64 z.c) ∧ W'.cell? ⟨b, o + k * 6 + 2, none⟩ = some (.int .i64 z.l) ∧ W'.cell? ⟨b, o + k * 6 + 3, none⟩ = some (.int .i64 z.w) ∧ W'.cell? ⟨b, o + k * 6 + 4, none⟩ = some (.int .i64 z.lo) ∧ W'.cell? ⟨b, o + k * 6 + 5, none⟩ = some (.int .i64 z.hi)) (first | (with_reducible assumption) | go_keep) (first | (go_at_call 58; (with_reducible (show Calls _ _ #[_, Value.agg #[Value.int _ (Fd.a y), _, _, _, _, _]] _ _)); refine (HC1.out _).mono ?_; rintro e Va ⟨rfl, hB⟩; have HBa := Lib.hid (low_trans (by first | exact HB1.out | exact HB1.out.drew) hB); have KAa := Lib.hid (Fb.keep (by exact K1d.out) hB); have KBa := Lib.hid (Fb.keep (by exact K2d.out) hB); have HIa := Lib.hid (Ints.keep (by exact HI1d.out) hB (Ints.lt (by exact HI1d.out) (by omega))); clear s0 s1 s2 s3 s4 s5 u0 u1 u2 u3 u4 u5 v0 v1 v2 v3 v4 v5; have s0 : Va.cell? ⟨w.heap.size, 0, none⟩ = some (.int .i64 x.a) := cell_h (k := 0) KAa.out rfl; have s1 : Va.cell? ⟨w.heap.size, 1, none⟩ = some (.int .i64 x.c) := cell_h (k := 1) KAa.out rfl; have s2 : Va.cell? ⟨w.heap.size, 2, none⟩ = some (.int .i64 x.l) := cell_h (k := 2) KAa.out rfl; have s3 : Va.cell? ⟨w.heap.size, 3, none⟩ = some (.int .i64 x.w) := cell_h (k := 3) KAa.out rfl; have s4 : Va.cell? ⟨w.heap.size, 4, none⟩ = some (.int .i64 x.lo) := cell_h (k := 4) KAa.out rfl; have s5 : Va.cell? ⟨w.heap.size, 5, none⟩ = some (.int .i64 x.hi) := cell_h (k := 5) KAa.out rfl; have u0 : Va.cell? ⟨g7, 0, none⟩ = some (.int .i64 y.a) := cell_h (k := 0) KBa.out rfl; have u1 : Va.cell? ⟨g7, 1, none⟩ = some (.int .i64 y.c) := cell_h (k := 1) KBa.out rfl; have u2 : Va.cell? ⟨g7, 2, none⟩ = some (.int .i64 y.l) := cell_h (k := 2) KBa.out rfl; have u3 : Va.cell? ⟨g7, 3, none⟩ = some (.int .i64 y.w) := cell_h (k := 3) KBa.out rfl; have u4 : Va.cell? ⟨g7, 4, none⟩ = some (.int .i64 y.lo) := cell_h (k := 4) KBa.out rfl; have u5 : Va.cell? ⟨g7, 5, none⟩ = some (.int .i64 y.hi) := cell_h (k := 5) KBa.out rfl; obtain ⟨v0, v1, v2, v3, v4, v5⟩ := Fd.get (w := Va) HIa.out (i := k) (by omega); rw [hz] at v0 v1 v2 v3 v4 v5; clear hB) | (go_at_call 58; (with_reducible (show Calls _ _ #[_, Value.agg #[Value.int _ (Fd.a z), _, _, _, _, _]] _ _)); refine (HC2.out _).mono ?_; rintro e Vb ⟨rfl, hB⟩; have HBb := Lib.hid (low_trans (by first | exact HBa.out | exact HBa.out.drew) hB); have KAb := Lib.hid (Fb.keep (by exact KAa.out) hB); have KBb := Lib.hid (Fb.keep (by exact KBa.out) hB); have HIb := Lib.hid (Ints.keep (by exact HIa.out) hB (Ints.lt (by exact HIa.out) (by omega))); clear s0 s1 s2 s3 s4 s5 u0 u1 u2 u3 u4 u5 v0 v1 v2 v3 v4 v5; have s0 : Vb.cell? ⟨w.heap.size, 0, none⟩ = some (.int .i64 x.a) := cell_h (k := 0) KAb.out rfl; have s1 : Vb.cell? ⟨w.heap.size, 1, none⟩ = some (.int .i64 x.c) := cell_h (k := 1) KAb.out rfl; have s2 : Vb.cell? ⟨w.heap.size, 2, none⟩ = some (.int .i64 x.l) := cell_h (k := 2) KAb.out rfl; have s3 : Vb.cell? ⟨w.heap.size, 3, none⟩ = some (.int .i64 x.w) := cell_h (k := 3) KAb.out rfl; have s4 : Vb.cell? ⟨w.heap.size, 4, none⟩ = some (.int .i64 x.lo) := cell_h (k := 4) KAb.out rfl; have s5 : Vb.cell? ⟨w.heap.size, 5, none⟩ = some (.int .i64 x.hi) := cell_h (k := 5) KAb.out rfl; have u0 : Vb.cell? ⟨g7, 0, none⟩ = some (.int .i64 y.a) := cell_h (k := 0) KBb.out rfl; have u1 : Vb.cell? ⟨g7, 1, none⟩ = some (.int .i64 y.c) := cell_h (k := 1) KBb.out rfl; have u2 : Vb.cell? ⟨g7, 2, none⟩ = some (.int .i64 y.l) := cell_h (k := 2) KBb.out rfl; have u3 : Vb.cell? ⟨g7, 3, none⟩ = some (.int .i64 y.w) := cell_h (k := 3) KBb.out rfl; have u4 : Vb.cell? ⟨g7, 4, none⟩ = some (.int .i64 y.lo) := cell_h (k := 4) KBb.out rfl; have u5 : Vb.cell? ⟨g7, 5, none⟩ = some (.int .i64 y.hi) := cell_h (k := 5) KBb.out rfl; obtain ⟨v0, v1, v2, v3, v4, v5⟩ := Fd.get (w := Vb) HIb.out (i := k) (by omega); rw [hz] at v0 v1 v2 v3 v4 v5; clear hB))
        all_goals
          by_cases hpq : p < q
          · have HE : Hid (nr d (i + 1) = (i : Int)) := by rw [HN2.out, if_pos hpq]; exact Lib.hid rfl
            clear HN2 s0 s1 s2 s3 s4 s5 u0 u1 u2 u3 u4 u5 v0 v1 v2 v3 v4 v5 HC1 HC2
            go_wp2_with fail
            exact ⟨⟨i + 1, by omega, by rw [HE.out], by go_num, KAb, HBb⟩, by simp [intOf]; omega⟩
          · have HE : Hid (nr d (i + 1) = (k : Int)) := by rw [HN2.out, if_neg hpq]; exact Lib.hid rfl
            clear HN2 s0 s1 s2 s3 s4 s5 u0 u1 u2 u3 u4 u5 v0 v1 v2 v3 v4 v5 HC1 HC2
            go_wp2_with fail
            exact ⟨⟨i + 1, by omega, by rw [HE.out], by go_num, KAb, HBb⟩, by simp [intOf]; omega⟩
    · obtain rfl : i = n := by omega
      go_wp2_with fail
      go_ret
      exact ⟨rfl, HB.out⟩

set_option maxRecDepth 100000 in
set_option maxHeartbeats 16000000 in
theorem rnear_of (w : World) (x : Fd) (a : Option Addr) (n c : Nat) (f : Nat → Int) (d : Nat → Int) (hn : n ≤ 24) (hS : Sl w 6 a n f) (hx : x.ok) (hf : ∀ i, i < n → (Fd.at f i).ok) (hd : ∀ i, i < n → d i = dst x (Fd.at f i)) :
    Calls Tryz.prog 59 #[.agg x.cells, .slice a n c] w fun e W => e = .returned (.int .i64 (nr d n)) ∧ Below w.heap.size w W := by
  have HS := Lib.hid hS
  have HX := Lib.hid hx
  have HF := Lib.hid hf
  have HD := Lib.hid hd
  clear hS hx hf hd
  dsimp only [Fd.cells]
  go_enter Tryz.func59, Tryz.ntmps59
  go_upto_region 1 with fail
  have k0 : Fb _ w.heap.size x := new_heap w (.cells #[.int .i64 x.a, .int .i64 x.c, .int .i64 x.l, .int .i64 x.w, .int .i64 x.lo, .int .i64 x.hi] 112)
  have hB := (Below.refl w.heap.size w).alloc (Nat.le_refl _) (.cells #[.int .i64 x.a, .int .i64 x.c, .int .i64 x.l, .int .i64 x.w, .int .i64 x.lo, .int .i64 x.hi] 112)
  generalize w.alloc (.cells #[.int .i64 x.a, .int .i64 x.c, .int .i64 x.l, .int .i64 x.w, .int .i64 x.lo, .int .i64 x.hi] 112) = W0 at k0 hB ⊢
  have K0 := Lib.hid k0
  have HB0 := Lib.hid hB
  clear k0 hB
  go_wp2_with fail
  go_loopw [5, 6] (fun v5 v6 wr => ∃ i : Nat, i ≤ n ∧ v5 = .int .i64 (nr d i) ∧ v6 = .int .i64 (i : Int) ∧ Hid (Fb wr w.heap.size x) ∧ Hid (Below w.heap.size w wr)) (fun _ v6 _ => n - (intOf v6).toNat)
  case atStart => exact ⟨0, by omega, rfl, rfl, K0, HB0⟩
  case round =>
    obtain ⟨i, hi, rfl, rfl, K, HB⟩ := hrel
    by_cases hlt : i < n
    · have hin : (i : Int) < (n : Int) := by omega
      have hwi : IntKind.i64.wrap ((i : Int) + 1) = (i : Int) + 1 := IntWalk.i64_in _ (by omega)
      obtain ⟨b, o, rfl, hI⟩ := HS.out (by omega)
      have HI := Lib.hid (hI.keep HB.out (hI.lt (by omega)))
      clear hI
      have hok := HF.out i hlt
      have hdi := HD.out i hlt
      obtain ⟨y, hy⟩ : ∃ y, Fd.at f i = y := ⟨_, rfl⟩
      rw [hy] at hok hdi
      go_upto_region 5 with fail
      have HI1 := HI
      have K1 := K
      have HB1 := HB
      clear HI K HB
      have hnge := nr_ge d i
      have hnlt := nr_lt d i
      have HN : Hid (nr d (i + 1) = if nr d i < 0 ∨ d i < d (nr d i).toNat then (i : Int) else nr d i) := rfl
      obtain ⟨bst, hbst⟩ : ∃ z, nr d i = z := ⟨_, rfl⟩
      rw [hbst] at hnge hnlt HN ⊢
      clear hbst
      by_cases h0 : bst < 0
      · have hE : nr d (i + 1) = (i : Int) := by rw [HN.out, if_pos (.inl h0)]
        have HE := Lib.hid hE
        clear hE HN
        go_quiet (fail)
        have HBq := Lib.hid (below_drewN HB1.out nq)
        have Kq : Hid (Fb (wr.drewN nq) w.heap.size x) := K1.out
        generalize wr.drewN nq = Wq at HBq Kq ⊢
        clear HB1 K1 HI1
        go_wp2_with fail
        exact ⟨⟨i + 1, by omega, by rw [HE.out], by go_num, Kq, HBq⟩, by simp [intOf]; omega⟩
      · obtain ⟨k, rfl⟩ := Int.eq_ofNat_of_zero_le (show 0 ≤ bst by omega)
        have hki : k < i := by omega
        have hkn : (k : Int) < (n : Int) := by omega
        have hk0 : ¬ (k : Int) < 0 := h0
        have hokk := HF.out k (by omega)
        have hdk := HD.out k (by omega)
        obtain ⟨z, hz⟩ : ∃ z, Fd.at f k = z := ⟨_, rfl⟩
        rw [hz] at hokk hdk
        have HC1 : Hid (∀ W, Calls Tryz.prog 60 #[.agg #[.int .i64 x.a, .int .i64 x.c, .int .i64 x.l, .int .i64 x.w, .int .i64 x.lo, .int .i64 x.hi], .agg #[.int .i64 y.a, .int .i64 y.c, .int .i64 y.l, .int .i64 y.w, .int .i64 y.lo, .int .i64 y.hi]] W fun e W' => e = .returned (.int .i64 (d i)) ∧ Below W.heap.size W W') := fun W => by rw [hdi]; exact rdist_of W x y HX.out hok
        have HC2 : Hid (∀ W, Calls Tryz.prog 60 #[.agg #[.int .i64 x.a, .int .i64 x.c, .int .i64 x.l, .int .i64 x.w, .int .i64 x.lo, .int .i64 x.hi], .agg #[.int .i64 z.a, .int .i64 z.c, .int .i64 z.l, .int .i64 z.w, .int .i64 z.lo, .int .i64 z.hi]] W fun e W' => e = .returned (.int .i64 (d k)) ∧ Below W.heap.size W W') := fun W => by rw [hdk]; exact rdist_of W x z HX.out hokk
        have HN2 : Hid (nr d (i + 1) = if d i < d k then (i : Int) else (k : Int)) := by
          rw [HN.out]
          show Hid ((if (k : Int) < 0 ∨ d i < d k then (i : Int) else (k : Int)) = _)
          by_cases h : d i < d k
          · rw [if_pos (.inr h), if_pos h]; exact Lib.hid rfl
          · rw [if_neg (by rintro (h' | h') <;> omega), if_neg h]; exact Lib.hid rfl
        obtain ⟨p, hp⟩ : ∃ p, d i = p := ⟨_, rfl⟩
        obtain ⟨q, hq⟩ : ∃ q, d k = q := ⟨_, rfl⟩
        rw [hp] at HC1 HN2
        rw [hq] at HC2 HN2
        clear HN hdi hdk hp hq hok hokk
        have HI1d : Hid (Ints wr.drew b o (n * 6) f) := HI1.out
        have K1d : Hid (Fb wr.drew w.heap.size x) := K1.out
        have s0 : wr.drew.cell? ⟨w.heap.size, 0, none⟩ = some (.int .i64 x.a) := cell_h (k := 0) K1d.out rfl
        have s1 : wr.drew.cell? ⟨w.heap.size, 1, none⟩ = some (.int .i64 x.c) := cell_h (k := 1) K1d.out rfl
        have s2 : wr.drew.cell? ⟨w.heap.size, 2, none⟩ = some (.int .i64 x.l) := cell_h (k := 2) K1d.out rfl
        have s3 : wr.drew.cell? ⟨w.heap.size, 3, none⟩ = some (.int .i64 x.w) := cell_h (k := 3) K1d.out rfl
        have s4 : wr.drew.cell? ⟨w.heap.size, 4, none⟩ = some (.int .i64 x.lo) := cell_h (k := 4) K1d.out rfl
        have s5 : wr.drew.cell? ⟨w.heap.size, 5, none⟩ = some (.int .i64 x.hi) := cell_h (k := 5) K1d.out rfl
        obtain ⟨u0, u1, u2, u3, u4, u5⟩ := Fd.get (w := wr.drew) HI1d.out (i := i) hlt
        rw [hy] at u0 u1 u2 u3 u4 u5
        obtain ⟨v0, v1, v2, v3, v4, v5⟩ := Fd.get (w := wr.drew) HI1d.out (i := k) (by omega)
        rw [hz] at v0 v1 v2 v3 v4 v5
        go_region_held3 (fun W' => W'.cell? ⟨w.heap.size, 0, none⟩ = some (.int .i64 x.a) ∧ W'.cell? ⟨w.heap.size, 1, none⟩ = some (.int .i64 x.c) ∧ W'.cell? ⟨w.heap.size, 2, none⟩ = some (.int .i64 x.l) ∧ W'.cell? ⟨w.heap.size, 3, none⟩ = some (.int .i64 x.w) ∧ W'.cell? ⟨w.heap.size, 4, none⟩ = some (.int .i64 x.lo) ∧ W'.cell? ⟨w.heap.size, 5, none⟩ = some (.int .i64 x.hi) ∧ W'.cell? ⟨b, o + i * 6, none⟩ = some (.int .i64 y.a) ∧ W'.cell? ⟨b, o + i * 6 + 1, none⟩ = some (.int .i64 y.c) ∧ W'.cell? ⟨b, o + i * 6 + 2, none⟩ = some (.int .i64 y.l) ∧ W'.cell? ⟨b, o + i * 6 + 3, none⟩ = some (.int .i64 y.w) ∧ W'.cell? ⟨b, o + i * 6 + 4, none⟩ = some (.int .i64 y.lo) ∧ W'.cell? ⟨b, o + i * 6 + 5, none⟩ = some (.int .i64 y.hi) ∧ W'.cell? ⟨b, o + k * 6, none⟩ = some (.int .i64 z.a) ∧ W'.cell? ⟨b, o + k * 6 + 1, none⟩ = some (.int .i64 z.c) ∧ W'.cell? ⟨b, o + k * 6 + 2, none⟩ = some (.int .i64 z.l) ∧ W'.cell? ⟨b, o + k * 6 + 3, none⟩ = some (.int .i64 z.w) ∧ W'.cell? ⟨b, o + k * 6 + 4, none⟩ = some (.int .i64 z.lo) ∧ W'.cell? ⟨b, o + k * 6 + 5, none⟩ = some (.int .i64 z.hi)) (first | (with_reducible assumption) | go_keep) (first | (go_at_call 60; (with_reducible (show Calls _ _ #[_, Value.agg #[Value.int _ (Fd.a y), _, _, _, _, _]] _ _)); refine (HC1.out _).mono ?_; rintro e Va ⟨rfl, hB⟩; have HBa := Lib.hid (low_trans (by first | exact HB1.out | exact HB1.out.drew) hB); have KAa := Lib.hid (Fb.keep (by exact K1d.out) hB); have HIa := Lib.hid (Ints.keep (by exact HI1d.out) hB (Ints.lt (by exact HI1d.out) (by omega))); clear s0 s1 s2 s3 s4 s5 u0 u1 u2 u3 u4 u5 v0 v1 v2 v3 v4 v5; have s0 : Va.cell? ⟨w.heap.size, 0, none⟩ = some (.int .i64 x.a) := cell_h (k := 0) KAa.out rfl; have s1 : Va.cell? ⟨w.heap.size, 1, none⟩ = some (.int .i64 x.c) := cell_h (k := 1) KAa.out rfl; have s2 : Va.cell? ⟨w.heap.size, 2, none⟩ = some (.int .i64 x.l) := cell_h (k := 2) KAa.out rfl; have s3 : Va.cell? ⟨w.heap.size, 3, none⟩ = some (.int .i64 x.w) := cell_h (k := 3) KAa.out rfl; have s4 : Va.cell? ⟨w.heap.size, 4, none⟩ = some (.int .i64 x.lo) := cell_h (k := 4) KAa.out rfl; have s5 : Va.cell? ⟨w.heap.size, 5, none⟩ = some (.int .i64 x.hi) := cell_h (k := 5) KAa.out rfl; obtain ⟨u0, u1, u2, u3, u4, u5⟩ := Fd.get (w := Va) HIa.out (i := i) hlt; rw [hy] at u0 u1 u2 u3 u4 u5; obtain ⟨v0, v1, v2, v3, v4, v5⟩ := Fd.get (w := Va) HIa.out (i := k) (by omega); rw [hz] at v0 v1 v2 v3 v4 v5; clear hB) | (go_at_call 60; (with_reducible (show Calls _ _ #[_, Value.agg #[Value.int _ (Fd.a z), _, _, _, _, _]] _ _)); refine (HC2.out _).mono ?_; rintro e Vb ⟨rfl, hB⟩; have HBb := Lib.hid (low_trans (by first | exact HBa.out | exact HBa.out.drew) hB); have KAb := Lib.hid (Fb.keep (by exact KAa.out) hB); have HIb := Lib.hid (Ints.keep (by exact HIa.out) hB (Ints.lt (by exact HIa.out) (by omega))); clear s0 s1 s2 s3 s4 s5 u0 u1 u2 u3 u4 u5 v0 v1 v2 v3 v4 v5; have s0 : Vb.cell? ⟨w.heap.size, 0, none⟩ = some (.int .i64 x.a) := cell_h (k := 0) KAb.out rfl; have s1 : Vb.cell? ⟨w.heap.size, 1, none⟩ = some (.int .i64 x.c) := cell_h (k := 1) KAb.out rfl; have s2 : Vb.cell? ⟨w.heap.size, 2, none⟩ = some (.int .i64 x.l) := cell_h (k := 2) KAb.out rfl; have s3 : Vb.cell? ⟨w.heap.size, 3, none⟩ = some (.int .i64 x.w) := cell_h (k := 3) KAb.out rfl; have s4 : Vb.cell? ⟨w.heap.size, 4, none⟩ = some (.int .i64 x.lo) := cell_h (k := 4) KAb.out rfl; have s5 : Vb.cell? ⟨w.heap.size, 5, none⟩ = some (.int .i64 x.hi) := cell_h (k := 5) KAb.out rfl; obtain ⟨u0, u1, u2, u3, u4, u5⟩ := Fd.get (w := Vb) HIb.out (i := i) hlt; rw [hy] at u0 u1 u2 u3 u4 u5; obtain ⟨v0, v1, v2, v3, v4, v5⟩ := Fd.get (w := Vb) HIb.out (i := k) (by omega); rw [hz] at v0 v1 v2 v3 v4 v5; clear hB))
        all_goals
          by_cases hpq : p < q
          · have HE : Hid (nr d (i + 1) = (i : Int)) := by rw [HN2.out, if_pos hpq]; exact Lib.hid rfl
            clear HN2 s0 s1 s2 s3 s4 s5 u0 u1 u2 u3 u4 u5 v0 v1 v2 v3 v4 v5 HC1 HC2
            go_wp2_with fail
            exact ⟨⟨i + 1, by omega, by rw [HE.out], by go_num, KAb, HBb⟩, by simp [intOf]; omega⟩
          · have HE : Hid (nr d (i + 1) = (k : Int)) := by rw [HN2.out, if_neg hpq]; exact Lib.hid rfl
            clear HN2 s0 s1 s2 s3 s4 s5 u0 u1 u2 u3 u4 u5 v0 v1 v2 v3 v4 v5 HC1 HC2
            go_wp2_with fail
            exact ⟨⟨i + 1, by omega, by rw [HE.out], by go_num, KAb, HBb⟩, by simp [intOf]; omega⟩
    · obtain rfl : i = n := by omega
      go_wp2_with fail
      go_ret
      exact ⟨rfl, HB.out⟩

end Go.Proofs.YtmdniebedflpbaaGreatDoor
