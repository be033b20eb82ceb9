/-
  WALKS: Floor of the prices.
-/
import Derived.Test.YtonlamkpehakdaaPzA
import Derived.Test.YtonlamkpehakdaaPmL
import Derived.StillTailTactics
namespace Go.Proofs.Ytonlamkpehakdaa
open Go.RowKit Go.Shelf

attribute [local go_sem] Oper.semAt_some

/-- The table that Floor is given: prices that no step undercuts. -/
structure FlT (n m : Nat) (g h : Nat → Int) (L F M : Int) (T : Nat → Nat → Int) : Prop where
  bd : ∀ i, i ≤ n → ∀ k, k ≤ m → 0 ≤ T i k ∧ T i k ≤ 1000000000
  le : ∀ i, i ≤ n → ∀ k, k ≤ m → ∀ s, s ∈ stp L F M g h i k → T i k ≤ T s.1 s.2.1 + s.2.2

set_option maxRecDepth 100000 in
set_option maxHeartbeats 8000000 in
theorem floor_in (w : World) (wa ha : Option Addr) (n wc m hc : Nat) (g h : Nat → Int) (L F M : Int) (bt : Nat) (rb : Nat → Nat) (T : Nat → Nat → Int) (s1 : Sl w 1 wa n g) (s2 : Sl w 1 ha m h) (i1 : I64s g n) (i2 : I64s h m) (hp : pbChk n m g h L F M = 0) (hT : TbAt w bt m rb T (n + 1)) (hF : FlT n m g h L F M T) :
    CallsIn Fence.wide 5 Try.prog 42 #[.slice wa n wc, .slice ha m hc, .agg #[.int .i64 L, .int .i64 F, .int .i64 M], .slice (some ⟨bt, 0, none⟩) (n + 1) (n + 1)] w fun e w' => e = .returned (.tuple #[.int .i64 (T n m - T 0 0), .int .i64 0]) ∧ Below w.heap.size w w' := by
  refine callsIn_of_wp_marks Try.func42 rfl trivial ?_ rfl
  simp only [Try.ntmps42, List.size_toArray, List.length_cons, List.length_nil, Nat.reduceAdd, Nat.reduceSub, Array.replicate_succ, Array.replicate_zero, List.push_toArray, List.append_toArray, List.nil_append, List.cons_append]
  have S1 := Lib.hid s1
  have S2 := Lib.hid s2
  have I1 := Lib.hid i1
  have I2 := Lib.hid i2
  have HP0 := Lib.hid hp
  have hpk := (pb_ok hp).1
  have HP := Lib.hid hpk
  have hn40 := hpk.n40
  have hm40 := hpk.m40
  have HT := Lib.hid hT
  have HF := Lib.hid hF
  have hF1 : ∀ f, Fence.wide.fn f := fun _ => trivial
  clear s1 s2 i1 i2 hp hT hF hpk
  gi_wp2
  obtain ⟨W4, hW4⟩ : ∃ W4, (((w.alloc (.cells #[.int .i64 L, .int .i64 F, .int .i64 M] 36)).alloc (.cells #[.slice (some ⟨bt, 0, none⟩) (n + 1) (n + 1)] 41)).alloc (.cells #[.int .i64 0] 3)).alloc (.cells #[.int .i64 0] 28) = W4 := ⟨_, rfl⟩
  have hz4 : W4.heap.size = w.heap.size + 4 := by rw [← hW4]; simp
  have hB4 : Below w.heap.size w W4 := by rw [← hW4]; exact ((((Below.refl _ w).alloc (Nat.le_refl _) _).alloc (by simp) _).alloc (by simp; omega) _).alloc (by simp; omega) _
  have h6 : W4.heap[w.heap.size]? = some (.cells #[.int .i64 L, .int .i64 F, .int .i64 M] 36 (0, 0)) := by rw [← hW4]; exact al_old (al_old (al_old (World.alloc_heap_new w _) _) _) _
  have h7 : W4.heap[w.heap.size + 1]? = some (.cells #[.slice (some ⟨bt, 0, none⟩) (n + 1) (n + 1)] 41 (0, 0)) := by rw [← hW4]; exact al_old (al_old (al_1 w _ _) _) _
  have h8 : W4.heap[w.heap.size + 1 + 1]? = some (.cells #[.int .i64 0] 3 (0, 0)) := by rw [← hW4]; exact al_old (al_2 w _ _ _) _
  have h9 : W4.heap[w.heap.size + 1 + 1 + 1]? = some (.cells #[.int .i64 0] 28 (0, 0)) := by rw [← hW4]; exact al_3 w _ _ _ _
  rw [hW4]
  have HS : Hid (∀ W : World, Below W4.heap.size W4 W → W.heap[w.heap.size]? = some (.cells #[.int .i64 L, .int .i64 F, .int .i64 M] 36 (0, 0)) ∧ W.heap[w.heap.size + 1]? = some (.cells #[.slice (some ⟨bt, 0, none⟩) (n + 1) (n + 1)] 41 (0, 0)) ∧ W.heap[w.heap.size + 1 + 1]? = some (.cells #[.int .i64 0] 3 (0, 0)) ∧ W.heap[w.heap.size + 1 + 1 + 1]? = some (.cells #[.int .i64 0] 28 (0, 0)) ∧ TbAt W bt m rb T (n + 1)) := fun W hb =>
    ⟨(hb.block _ (by omega)).trans h6, (hb.block _ (by omega)).trans h7, (hb.block _ (by omega)).trans h8, (hb.block _ (by omega)).trans h9, (HT.out.keep hB4).keep hb⟩
  have HZ4 := Lib.hid hz4
  have HB4 := Lib.hid hB4
  clear hW4 hz4 h6 h7 h8 h9
  refine (callsIn_wide.2 (checkProblem_of W4 wa ha n wc m hc g h L F M (S1.out.keep (by decide) HB4.out) (S2.out.keep (by decide) HB4.out) I1.out I2.out)).mono ?_
  rintro e w2 ⟨rfl, hB2⟩
  rw [HP0.out]
  have HB2 := Lib.hid hB2
  have hs2 := HS.out w2 hB2
  have c7 : w2.cell? ⟨w.heap.size + 1, 0, none⟩ = some (.slice (some ⟨bt, 0, none⟩) (n + 1) (n + 1)) := cell_h hs2.2.1 rfl
  clear hB2 hs2 hB4
  gi_wp2
  gi_loopw [34] (fun vi wr => ∃ i : Nat, i ≤ n + 1 ∧ vi = .int .i64 i ∧ Hid (Below W4.heap.size W4 wr)) (fun vi _ => n + 1 - (intOf vi).toNat)
  case atStart => exact ⟨0, by omega, rfl, HB2.out⟩
  case round =>
    obtain ⟨i, hi, rfl, HB⟩ := hrel
    by_cases hlt : i < n + 1
    · have hs := HS.out wr HB.out
      have d1 := hs.2.2.2.2.ct i hlt
      have hin : (i : Int) < (n : Int) + 1 := by omega
      clear hs c7
      gi_wp2
      go_roundw
      case rel => exact ⟨i + 1, by omega, by go_num, HB.out⟩
      case measure => simp [intOf]; omega
    · obtain rfl : i = n + 1 := by omega
      have hs := HS.out wr HB.out
      have c60 : wr.cell? ⟨w.heap.size, 0, none⟩ = some (.int .i64 L) := cell_h hs.1 rfl
      have c61 : wr.cell? ⟨w.heap.size, 1, none⟩ = some (.int .i64 F) := cell_h hs.1 rfl
      have c62 : wr.cell? ⟨w.heap.size, 2, none⟩ = some (.int .i64 M) := cell_h hs.1 rfl
      clear hs c7
      gi_wp2
      refine (callsIn_wide.2 (endings_of wr wa ha n wc m hc g h L F M ((S1.out.keep (by decide) HB4.out).keep (by decide) HB.out) ((S2.out.keep (by decide) HB4.out).keep (by decide) HB.out) HP.out)).mono ?_
      rintro e w3 ⟨rfl, hE3, hB3⟩
      have HB3 := Lib.hid (HB.out.trans (hB3.mono HB.out.size))
      have HE3 := Lib.hid hE3
      have c7 : w3.cell? ⟨w.heap.size + 1, 0, none⟩ = some (.slice (some ⟨bt, 0, none⟩) (n + 1) (n + 1)) := cell_h (HS.out w3 HB3.out).2.1 rfl
      have hB4w := HB4.out.size
      have hw3 : w.heap.size + 4 ≤ w3.heap.size := by have := HZ4.out; have := HB3.out.size; omega
      clear hE3 hB3 c60 c61 c62 HB
      gi_wp2
      clear c7
      refine wpIn_loop_ghost_k (fun r a' W => ∃ (i : Nat) (rs : List Nat) (u14 u15 u16 u17 u52 u53 u54 u55 u56 u57 u58 u59 u60 u61 u62 u63 u64 u65 u66 u67 u68 u69 u70 u71 u72 u88 u89 : Value), (i + r = n + 1 ∧ Below w3.heap.size w3 W ∧ MkAt w3.heap.size rs W) ∧ a' = { tmps := #[(.slice wa n wc), (.slice ha m hc), (.agg #[.int .i64 L, .int .i64 F, .int .i64 M]), (.slice (some ⟨bt, 0, none⟩) (n + 1) (n + 1)), undef, undef, (.pointer (some ⟨w.heap.size, 0, none⟩)), (.pointer (some ⟨w.heap.size + 1, 0, none⟩)), (.pointer (some ⟨w.heap.size + 1 + 1, 0, none⟩)), (.pointer (some ⟨w.heap.size + 1 + 1 + 1, 0, none⟩)), (.int .i64 0), undef, u12, (.func (.func 94) #[] #[.pointer (some ⟨wr.heap.size, 0, none⟩), .pointer (some ⟨wr.heap.size + 1 + 1 + 1, 0, none⟩)]), u14, u15, u16, u17, undef, (.slice wa n wc), (.slice ha m hc), (.agg #[.int .i64 L, .int .i64 F, .int .i64 M]), (.int .i64 0), (.int .i64 0), (.bool false), undef, (.slice (some ⟨bt, 0, none⟩) (n + 1) (n + 1)), (.int .i64 ((n : Int) + 1)), (.slice wa n wc), (.int .i64 (n : Int)), (.int .i64 ((n : Int) + 1)), (.bool false), (.slice (some ⟨bt, 0, none⟩) (n + 1) (n + 1)), (.int .i64 ((n : Int) + 1)), (.int .i64 ((n : Int) + 1)), (.bool false), u36, u37, u38, u39, u40, u41, u42, u43, u44, (.slice wa n wc), (.slice ha m hc), (.agg #[.int .i64 L, .int .i64 F, .int .i64 M]), (.func (.func 94) #[] #[.pointer (some ⟨wr.heap.size, 0, none⟩), .pointer (some ⟨wr.heap.size + 1 + 1 + 1, 0, none⟩)]), (.slice (some ⟨bt, 0, none⟩) (n + 1) (n + 1)), (.int .i64 ((n : Int) + 1)), (.int .i64 (i : Int)), u52, u53, u54, u55, u56, u57, u58, u59, u60, u61, u62, u63, u64, u65, u66, u67, u68, u69, u70, u71, u72, undef, undef, undef, undef, undef, undef, undef, undef, undef, undef, undef, undef, undef, undef, undef, u88, u89, undef, undef, undef, undef, undef, undef, undef, undef, undef, undef, undef, undef, undef, undef, undef], defers := mks rs }) (n + 1) ?_ ?_
      · refine ⟨0, [], undef, undef, undef, undef, undef, undef, undef, undef, undef, undef, undef, undef, undef, undef, undef, undef, undef, undef, undef, undef, undef, undef, undef, undef, undef, undef, undef, ⟨by omega, Below.refl _ _, by simp, fun r h => by cases h⟩, rfl⟩
      · rintro r a' W ⟨i, rs, u14, u15, u16, u17, u52, u53, u54, u55, u56, u57, u58, u59, u60, u61, u62, u63, u64, u65, u66, u67, u68, u69, u70, u71, u72, u88, u89, ⟨hir, hW, hmk⟩, rfl⟩ J K hJ hK
        have HW := Lib.hid hW
        have HMk := Lib.hid hmk
        have HJ := Lib.hid hJ
        have HK := Lib.hid hK
        have hsz := hW.size
        have hb43 := HB3.out.trans (hW.mono HB3.out.size)
        have HB43 := Lib.hid hb43
        have hs := HS.out W hb43
        clear hW hmk hJ hK hb43
        by_cases hlt : i < n + 1
        · obtain ⟨r, rfl⟩ : ∃ j, r = j + 1 := ⟨r - 1, by omega⟩
          have d1 := hs.2.2.2.2.ct i hlt
          have hin : (i : Int) < (n : Int) + 1 := by omega
          clear hs
          gi_wp2
          clear d1
          refine wpIn_loop_ghost_k (fun r3 a' W' => ∃ (k : Nat) (rs3 : List Nat) (u16 u17 u59 u60 u61 u62 u63 u64 u65 u66 u67 u68 u69 u70 u71 u72 u88 : Value), (k + r3 = m + 1 ∧ Below W.heap.size W W' ∧ MkAt w3.heap.size rs3 W') ∧ a' = { tmps := #[(.slice wa n wc), (.slice ha m hc), (.agg #[.int .i64 L, .int .i64 F, .int .i64 M]), (.slice (some ⟨bt, 0, none⟩) (n + 1) (n + 1)), undef, undef, (.pointer (some ⟨w.heap.size, 0, none⟩)), (.pointer (some ⟨w.heap.size + 1, 0, none⟩)), (.pointer (some ⟨w.heap.size + 1 + 1, 0, none⟩)), (.pointer (some ⟨w.heap.size + 1 + 1 + 1, 0, none⟩)), (.int .i64 0), undef, u12, (.func (.func 94) #[] #[.pointer (some ⟨wr.heap.size, 0, none⟩), .pointer (some ⟨wr.heap.size + 1 + 1 + 1, 0, none⟩)]), (.int .i64 (i : Int)), (.slice (some ⟨rb i, 0, none⟩) (m + 1) (m + 1)), u16, u17, undef, (.slice wa n wc), (.slice ha m hc), (.agg #[.int .i64 L, .int .i64 F, .int .i64 M]), (.int .i64 0), (.int .i64 0), (.bool false), undef, (.slice (some ⟨bt, 0, none⟩) (n + 1) (n + 1)), (.int .i64 ((n : Int) + 1)), (.slice wa n wc), (.int .i64 (n : Int)), (.int .i64 ((n : Int) + 1)), (.bool false), (.slice (some ⟨bt, 0, none⟩) (n + 1) (n + 1)), (.int .i64 ((n : Int) + 1)), (.int .i64 ((n : Int) + 1)), (.bool false), u36, u37, u38, u39, u40, u41, u42, u43, u44, (.slice wa n wc), (.slice ha m hc), (.agg #[.int .i64 L, .int .i64 F, .int .i64 M]), (.func (.func 94) #[] #[.pointer (some ⟨wr.heap.size, 0, none⟩), .pointer (some ⟨wr.heap.size + 1 + 1 + 1, 0, none⟩)]), (.slice (some ⟨bt, 0, none⟩) (n + 1) (n + 1)), (.int .i64 ((n : Int) + 1)), (.int .i64 (i : Int)), (.bool true), (.int .i64 (i : Int)), (.pointer (some ⟨bt, i, none⟩)), (.slice (some ⟨rb i, 0, none⟩) (m + 1) (m + 1)), (.slice (some ⟨rb i, 0, none⟩) (m + 1) (m + 1)), (.int .i64 ((m : Int) + 1)), (.int .i64 (k : Int)), u59, u60, u61, u62, u63, u64, u65, u66, u67, u68, u69, u70, u71, u72, undef, undef, undef, undef, undef, undef, undef, undef, undef, undef, undef, undef, undef, undef, undef, u88, u89, undef, undef, undef, undef, undef, undef, undef, undef, undef, undef, undef, undef, undef, undef, undef], defers := mks rs3 }) (m + 1) ?_ ?_
          · exact ⟨0, rs, u16, u17, u59, u60, u61, u62, u63, u64, u65, u66, u67, u68, u69, u70, u71, u72, u88, ⟨by omega, Below.refl _ _, HMk.out⟩, rfl⟩
          · rintro r3 a' W' ⟨k, rs3, u16, u17, u59, u60, u61, u62, u63, u64, u65, u66, u67, u68, u69, u70, u71, u72, u88, ⟨hkr, hW', hmk'⟩, rfl⟩ J3 K3 hJ3 hK3
            have HW' := Lib.hid hW'
            have HMk' := Lib.hid hmk'
            have HJ3 := Lib.hid hJ3
            have HK3 := Lib.hid hK3
            have hsz' := hW'.size
            have hb43' := HB43.out.trans (hW'.mono HB43.out.size)
            have HB43' := Lib.hid hb43'
            have hs' := HS.out W' hb43'
            clear hW' hmk' hJ3 hK3 hb43'
            by_cases hltk : k < m + 1
            · obtain ⟨r3, rfl⟩ : ∃ j, r3 = j + 1 := ⟨r3 - 1, by omega⟩
              have d2 := hs'.2.2.2.2.cr i hlt k (by omega)
              have hkm : (k : Int) < (m : Int) + 1 := by omega
              have hTb := HF.out.bd i (by omega) k (by omega)
              have HTl := Lib.hid (HF.out.le i (by omega) k (by omega))
              clear hs'
              gi_wp2_with (gi_at_call 94; refine (callsIn_wide.2 (endings1_of _ _ _ _ _)).mono ?_; rintro e w' ⟨rfl, rfl⟩)
              clear d2
              obtain ⟨W5, hW5⟩ : ∃ W5, ((W'.alloc (.cells #[.int .i64 (T i k)] 3)).alloc (.cells #[.int .i64 (i : Int)] 3)).alloc (.cells #[.int .i64 (k : Int)] 3) = W5 := ⟨_, rfl⟩
              have hz5 : W5.heap.size = W'.heap.size + 3 := by rw [← hW5]; simp
              have hB5 : Below W'.heap.size W' W5 := by rw [← hW5]; exact (((Below.refl _ W').alloc (Nat.le_refl _) _).alloc (by simp) _).alloc (by simp; omega) _
              have hpc : W5.heap[W'.heap.size]? = some (.cells #[.int .i64 (T i k)] 3 (0, 0)) := by rw [← hW5]; exact al_old (al_old (World.alloc_heap_new W' _) _) _
              have hst := ((HE3.out.keep (HW.out.trans (HW'.out.mono hsz))).keep ((Below.refl _ W').alloc (Nat.le_refl _) (.cells #[.int .i64 (T i k)] 3))).st i k (by omega) (by omega)
              rw [hW5, World.size_alloc] at hst
              rw [hW5]
              have HSt := Lib.hid hst
              have HZ5 := Lib.hid hz5
              have HB5 := Lib.hid hB5
              have HPc := Lib.hid hpc
              clear hst hz5 hB5 hpc hW5
              refine rangeFunc_seen rfl (by decide) (gf := 95) (lb := #[.pointer (some ⟨W'.heap.size + 1, 0, none⟩), .pointer (some ⟨W'.heap.size + 1 + 1, 0, none⟩), .pointer (some ⟨wr.heap.size, 0, none⟩), .pointer (some ⟨wr.heap.size + 1 + 1 + 1, 0, none⟩)]) rfl trivial (enters_of Try.func95 (by kernel_rfl) rfl)
                (encs := fun x : Stp => #[stV x]) (fun _ => rfl) (fun _ V => Below W5.heap.size W5 V)
                (fun _ x => x ∈ stp L F M g h i k) (fun xs => xs = stp L F M g h i k) ?own (Below.refl _ _)
                (fun x a' V => ∃ Bx, W5.heap.size ≤ Bx ∧ V.heap[Bx]? = some (.cells #[.int .i64 (x.1 : Int), .int .i64 (x.2.1 : Int), .int .i64 x.2.2] 147 (0, 0)) ∧
                  a' = { tmps := #[(.slice wa n wc), (.slice ha m hc), (.agg #[.int .i64 L, .int .i64 F, .int .i64 M]), (.slice (some ⟨bt, 0, none⟩) (n + 1) (n + 1)), undef, undef, (.pointer (some ⟨w.heap.size, 0, none⟩)), (.pointer (some ⟨w.heap.size + 1, 0, none⟩)), (.pointer (some ⟨w.heap.size + 1 + 1, 0, none⟩)), (.pointer (some ⟨w.heap.size + 1 + 1 + 1, 0, none⟩)), (.int .i64 0), undef, u12, (.func (.func 94) #[] #[.pointer (some ⟨wr.heap.size, 0, none⟩), .pointer (some ⟨wr.heap.size + 1 + 1 + 1, 0, none⟩)]), (.int .i64 (i : Int)), (.slice (some ⟨rb i, 0, none⟩) (m + 1) (m + 1)), (.int .i64 (k : Int)), (.pointer (some ⟨W'.heap.size, 0, none⟩)), (.pointer (some ⟨Bx, 0, none⟩)), (.slice wa n wc), (.slice ha m hc), (.agg #[.int .i64 L, .int .i64 F, .int .i64 M]), (.int .i64 0), (.int .i64 0), (.bool false), undef, (.slice (some ⟨bt, 0, none⟩) (n + 1) (n + 1)), (.int .i64 ((n : Int) + 1)), (.slice wa n wc), (.int .i64 (n : Int)), (.int .i64 ((n : Int) + 1)), (.bool false), (.slice (some ⟨bt, 0, none⟩) (n + 1) (n + 1)), (.int .i64 ((n : Int) + 1)), (.int .i64 ((n : Int) + 1)), (.bool false), u36, u37, u38, u39, u40, u41, u42, u43, u44, (.slice wa n wc), (.slice ha m hc), (.agg #[.int .i64 L, .int .i64 F, .int .i64 M]), (.func (.func 94) #[] #[.pointer (some ⟨wr.heap.size, 0, none⟩), .pointer (some ⟨wr.heap.size + 1 + 1 + 1, 0, none⟩)]), (.slice (some ⟨bt, 0, none⟩) (n + 1) (n + 1)), (.int .i64 ((n : Int) + 1)), (.int .i64 (i : Int)), (.bool true), (.int .i64 (i : Int)), (.pointer (some ⟨bt, i, none⟩)), (.slice (some ⟨rb i, 0, none⟩) (m + 1) (m + 1)), (.slice (some ⟨rb i, 0, none⟩) (m + 1) (m + 1)), (.int .i64 ((m : Int) + 1)), (.int .i64 (k : Int)), (.bool true), (.int .i64 (k : Int)), (.pointer (some ⟨rb i, k, none⟩)), (.int .i64 (T i k)), (.int .i64 (T i k)), (.bool (decide (T i k < -1099511627776))), (.bool (decide (T i k < -1099511627776))), (.int .i64 (T i k)), (.bool (decide (1099511627776 < T i k))), (.bool (decide (T i k < -1099511627776) || decide (1099511627776 < T i k))), (.func (.func 94) #[] #[.pointer (some ⟨wr.heap.size, 0, none⟩), .pointer (some ⟨wr.heap.size + 1 + 1 + 1, 0, none⟩)]), (.int .i64 (i : Int)), (.int .i64 (k : Int)), (.func (.func 95) #[] #[.pointer (some ⟨W'.heap.size + 1, 0, none⟩), .pointer (some ⟨W'.heap.size + 1 + 1, 0, none⟩), .pointer (some ⟨wr.heap.size, 0, none⟩), .pointer (some ⟨wr.heap.size + 1 + 1 + 1, 0, none⟩)]), stV x, undef, undef, undef, undef, undef, undef, undef, undef, undef, undef, undef, undef, undef, undef, u88, u89, undef, undef, undef, undef, undef, undef, undef, undef, undef, undef, undef, undef, undef, undef, undef], defers := [] })
                (fun x a' _ X Y row hs hg hr => by
                  obtain ⟨Bx, h1, h2, h3⟩ := hs
                  exact ⟨Bx, h1, (grownBy_keeps_cells hg (fun r e => (hr r e).2) h2 rfl).trans h2, h3⟩)
                ?sq ?assign ?body ?done
              case own => exact ownFrom_low (fun s V h => h.size) (fun s V V' h hb => h.trans hb)
              case sq =>
                intro l J V hb hJI hJa hY h0
                refine (steps_in 4 l (W'.heap.size + 1) (W'.heap.size + 1 + 1) wr.heap.size (wr.heap.size + 1 + 1 + 1) (wr.heap.size + 1) (wr.heap.size + 1 + 1) wa ha n wc m hc g h L F M i k J V (fun pre V2 hj => ?_) hJa (fun pre x V2 hj hx => hY pre x V2 hj hx) h0).mono fun e w' h => h
                exact HSt.out.keep (hJI pre V2 hj)
              case assign =>
                rintro l pre x V K5 hI hG hK5
                have HI := Lib.hid hI
                have HK5 := Lib.hid hK5
                clear hI hK5
                dsimp only [stV]
                gi_wp2
                refine HK5.out _ _ ((KeepsOthers.alloc _ _).from _) (HI.out.alloc HI.out.size _) ⟨V.heap.size, HI.out.size, World.alloc_heap_new V _, rfl⟩
              case body =>
                rintro l pre x a' V hl2 hI hx ⟨Bx, hBx, hbx, rfl⟩
                have hG1 : ∀ f, (Fence.wide.inRound l).fn f := fun _ => trivial
                have hxl := stp_ok HP.out (i := i) (k := k) (r := i + 1) (N := n + 1) (by omega) (by omega) (by omega) (by omega) x hx
                obtain ⟨xa, xb, xc⟩ := x
                obtain ⟨x1, x2, x3, x4, x5⟩ := hxl
                have hle := HTl.out _ hx
                dsimp only at x1 x2 x3 x4 x5 hle
                have hxb := HF.out.bd xa (by omega) xb (by omega)
                have hb4V := HB43'.out.trans ((HB5.out.trans (hI.mono HB5.out.size)).mono HB43'.out.size)
                have hsV := HS.out V hb4V
                have HI := Lib.hid hI
                have hS0 : V.cell? ⟨W'.heap.size, 0, none⟩ = some (.int .i64 (T i k)) ∧ V.cell? ⟨w.heap.size + 1, 0, none⟩ = some (.slice (some ⟨bt, 0, none⟩) (n + 1) (n + 1)) ∧ V.cell? ⟨Bx, 0, none⟩ = some (.int .i64 (xa : Int)) ∧ V.cell? ⟨Bx, 1, none⟩ = some (.int .i64 (xb : Int)) ∧ V.cell? ⟨Bx, 2, none⟩ = some (.int .i64 xc) ∧ V.cell? ⟨bt, xa, none⟩ = some (.slice (some ⟨rb xa, 0, none⟩) (m + 1) (m + 1)) ∧ V.cell? ⟨rb xa, xb, none⟩ = some (.int .i64 (T xa xb)) :=
                  ⟨cell_h ((hI.block _ (by have := HZ5.out; omega)).trans HPc.out) rfl, cell_h hsV.2.1 rfl, cell_h hbx rfl, cell_h hbx rfl, cell_h hbx rfl, hsV.2.2.2.2.ct xa (by omega), hsV.2.2.2.2.cr xa (by omega) xb (by omega)⟩
                have wS : IntKind.i64.wrap (T xa xb + xc) = T xa xb + xc := IntWalk.i64_in _ (by omega)
                have hdl : decide (T xa xb + xc < T i k) = false := decide_eq_false (by omega)
                have hxaI : (xa : Int) < ((n + 1 : Nat) : Int) := by omega
                have hxbI : (xb : Int) < ((m + 1 : Nat) : Int) := by omega
                have hxaI2 : (xa : Int) < (n : Int) + 1 := by omega
                have hxbI2 : (xb : Int) < (m : Int) + 1 := by omega
                clear hsV hI hle hxb x1 x2 x3 x4 x5
                dsimp only [stV]
                generalize hxT : T xa xb = X at hS0 wS hdl
                gi_wp2
                refine wpIn_region_I (fun V2 : World => V2.cell? ⟨W'.heap.size, 0, none⟩ = some (.int .i64 (T i k)) ∧ V2.cell? ⟨w.heap.size + 1, 0, none⟩ = some (.slice (some ⟨bt, 0, none⟩) (n + 1) (n + 1)) ∧ V2.cell? ⟨Bx, 0, none⟩ = some (.int .i64 (xa : Int)) ∧ V2.cell? ⟨Bx, 1, none⟩ = some (.int .i64 (xb : Int)) ∧ V2.cell? ⟨Bx, 2, none⟩ = some (.int .i64 xc) ∧ V2.cell? ⟨bt, xa, none⟩ = some (.slice (some ⟨rb xa, 0, none⟩) (m + 1) (m + 1)) ∧ V2.cell? ⟨rb xa, xb, none⟩ = some (.int .i64 X)) (by kernel_rfl) ?_
                change anyI _ _ _ _ _ _ _ 14 (Array.replicate 14 false) _ _
                replace hS0 : V.drew.cell? ⟨W'.heap.size, 0, none⟩ = some (.int .i64 (T i k)) ∧ V.drew.cell? ⟨w.heap.size + 1, 0, none⟩ = some (.slice (some ⟨bt, 0, none⟩) (n + 1) (n + 1)) ∧ V.drew.cell? ⟨Bx, 0, none⟩ = some (.int .i64 (xa : Int)) ∧ V.drew.cell? ⟨Bx, 1, none⟩ = some (.int .i64 (xb : Int)) ∧ V.drew.cell? ⟨Bx, 2, none⟩ = some (.int .i64 xc) ∧ V.drew.cell? ⟨bt, xa, none⟩ = some (.slice (some ⟨rb xa, 0, none⟩) (m + 1) (m + 1)) ∧ V.drew.cell? ⟨rb xa, xb, none⟩ = some (.int .i64 X) := hS0
                refine anyI_takeD hG1 0 74 (v := ?_) rfl rfl (by kernel_rfl) (by kernel_rfl) (by kernel_rfl) (by kernel_rfl) (fun _ _ _ h => h) hS0 rfl ?_ ?_
                rotate_left
                · intro V2 hSw; obtain ⟨s0, s1, s2, s3, s4, s5, s6⟩ := hSw; go_simp; try with_reducible rfl
                simp only [List.setIfInBounds_toArray, List.set_cons_zero, List.set_cons_succ]
                refine anyI_takeD hG1 1 75 (v := ?_) rfl rfl (by kernel_rfl) (by kernel_rfl) (by kernel_rfl) (by kernel_rfl) (fun _ _ _ h => h) hS0 rfl ?_ ?_
                rotate_left
                · intro V2 hSw; obtain ⟨s0, s1, s2, s3, s4, s5, s6⟩ := hSw; go_simp; try with_reducible rfl
                simp only [List.setIfInBounds_toArray, List.set_cons_zero, List.set_cons_succ]
                refine anyI_takeD hG1 2 76 (v := ?_) rfl rfl (by kernel_rfl) (by kernel_rfl) (by kernel_rfl) (by kernel_rfl) (fun _ _ _ h => h) hS0 rfl ?_ ?_
                rotate_left
                · intro V2 hSw; obtain ⟨s0, s1, s2, s3, s4, s5, s6⟩ := hSw; go_simp; try with_reducible rfl
                simp only [List.setIfInBounds_toArray, List.set_cons_zero, List.set_cons_succ]
                refine anyI_takeD hG1 3 77 (v := ?_) rfl rfl (by kernel_rfl) (by kernel_rfl) (by kernel_rfl) (by kernel_rfl) (fun _ _ _ h => h) hS0 rfl ?_ ?_
                rotate_left
                · intro V2 hSw; obtain ⟨s0, s1, s2, s3, s4, s5, s6⟩ := hSw; go_simp; try with_reducible rfl
                simp only [List.setIfInBounds_toArray, List.set_cons_zero, List.set_cons_succ]
                refine anyI_takeD hG1 4 78 (v := ?_) rfl rfl (by kernel_rfl) (by kernel_rfl) (by kernel_rfl) (by kernel_rfl) (fun _ _ _ h => h) hS0 rfl ?_ ?_
                rotate_left
                · intro V2 hSw; obtain ⟨s0, s1, s2, s3, s4, s5, s6⟩ := hSw; go_simp; try with_reducible rfl
                simp only [List.setIfInBounds_toArray, List.set_cons_zero, List.set_cons_succ]
                refine anyI_takeD hG1 5 79 (v := ?_) rfl rfl (by kernel_rfl) (by kernel_rfl) (by kernel_rfl) (by kernel_rfl) (fun _ _ _ h => h) hS0 rfl ?_ ?_
                rotate_left
                · intro V2 hSw; obtain ⟨s0, s1, s2, s3, s4, s5, s6⟩ := hSw; go_simp; try with_reducible rfl
                simp only [List.setIfInBounds_toArray, List.set_cons_zero, List.set_cons_succ]
                refine anyI_takeD hG1 6 80 (v := ?_) rfl rfl (by kernel_rfl) (by kernel_rfl) (by kernel_rfl) (by kernel_rfl) (fun _ _ _ h => h) hS0 rfl ?_ ?_
                rotate_left
                · intro V2 hSw; obtain ⟨s0, s1, s2, s3, s4, s5, s6⟩ := hSw; go_simp; try with_reducible rfl
                simp only [List.setIfInBounds_toArray, List.set_cons_zero, List.set_cons_succ]
                refine anyI_takeD hG1 7 81 (v := ?_) rfl rfl (by kernel_rfl) (by kernel_rfl) (by kernel_rfl) (by kernel_rfl) (fun _ _ _ h => h) hS0 rfl ?_ ?_
                rotate_left
                · intro V2 hSw; obtain ⟨s0, s1, s2, s3, s4, s5, s6⟩ := hSw; go_simp; try with_reducible rfl
                simp only [List.setIfInBounds_toArray, List.set_cons_zero, List.set_cons_succ]
                refine anyI_takeD hG1 8 82 (v := ?_) rfl rfl (by kernel_rfl) (by kernel_rfl) (by kernel_rfl) (by kernel_rfl) (fun _ _ _ h => h) hS0 rfl ?_ ?_
                rotate_left
                · intro V2 hSw; obtain ⟨s0, s1, s2, s3, s4, s5, s6⟩ := hSw; go_simp; try with_reducible rfl
                simp only [List.setIfInBounds_toArray, List.set_cons_zero, List.set_cons_succ]
                refine anyI_takeD hG1 9 83 (v := ?_) rfl rfl (by kernel_rfl) (by kernel_rfl) (by kernel_rfl) (by kernel_rfl) (fun _ _ _ h => h) hS0 rfl ?_ ?_
                rotate_left
                · intro V2 hSw; obtain ⟨s0, s1, s2, s3, s4, s5, s6⟩ := hSw; go_simp; try with_reducible rfl
                simp only [List.setIfInBounds_toArray, List.set_cons_zero, List.set_cons_succ]
                refine anyI_takeD hG1 10 84 (v := ?_) rfl rfl (by kernel_rfl) (by kernel_rfl) (by kernel_rfl) (by kernel_rfl) (fun _ _ _ h => h) hS0 rfl ?_ ?_
                rotate_left
                · intro V2 hSw; obtain ⟨s0, s1, s2, s3, s4, s5, s6⟩ := hSw; go_simp; try with_reducible rfl
                simp only [List.setIfInBounds_toArray, List.set_cons_zero, List.set_cons_succ]
                refine anyI_takeD hG1 11 85 (v := ?_) rfl rfl (by kernel_rfl) (by kernel_rfl) (by kernel_rfl) (by kernel_rfl) (fun _ _ _ h => h) hS0 rfl ?_ ?_
                rotate_left
                · intro V2 hSw; obtain ⟨s0, s1, s2, s3, s4, s5, s6⟩ := hSw; go_simp; try with_reducible rfl
                simp only [List.setIfInBounds_toArray, List.set_cons_zero, List.set_cons_succ]
                refine anyI_takeD hG1 12 86 (v := ?_) rfl rfl (by kernel_rfl) (by kernel_rfl) (by kernel_rfl) (by kernel_rfl) (fun _ _ _ h => h) hS0 rfl ?_ ?_
                rotate_left
                · intro V2 hSw; obtain ⟨s0, s1, s2, s3, s4, s5, s6⟩ := hSw; go_simp; try with_reducible rfl
                simp only [List.setIfInBounds_toArray, List.set_cons_zero, List.set_cons_succ]
                refine anyI_takeD hG1 13 87 (v := ?_) rfl rfl (by kernel_rfl) (by kernel_rfl) (by kernel_rfl) (by kernel_rfl) (fun _ _ _ h => h) hS0 rfl ?_ ?_
                rotate_left
                · intro V2 hSw; obtain ⟨s0, s1, s2, s3, s4, s5, s6⟩ := hSw; go_simp; try with_reducible rfl
                simp only [List.setIfInBounds_toArray, List.set_cons_zero, List.set_cons_succ]
                refine anyI_done (by kernel_rfl) ?_ _
                gi_wp2
                exact ⟨⟨Nat.le_refl _, fun j o hj ho _ => ho⟩, HI.out.drew⟩
              case done =>
                rintro D xs V hD rfl hI hKD
                have hbV : Below W'.heap.size W' V := HB5.out.trans (hI.mono HB5.out.size)
                have hmk : MkAt w3.heap.size (D :: rs3) V := by
                  refine ⟨List.nodup_cons.2 ⟨fun hmem => ?_, HMk'.out.1⟩, fun r hr => ?_⟩
                  · have := (HMk'.out.2 D hmem).2.1
                    have := HZ5.out
                    omega
                  · rcases List.mem_cons.1 hr with rfl | hr
                    · exact ⟨by have := HZ5.out; omega, (Array.getElem?_eq_some_iff.1 hKD).1, hKD⟩
                    · obtain ⟨q1, q2, q3⟩ := HMk'.out.2 r hr
                      exact ⟨q1, Nat.lt_of_lt_of_le q2 hbV.size, (hbV.block _ q2).trans q3⟩
                have HBV := Lib.hid (HW'.out.trans (hbV.mono hsz'))
                have HMkV := Lib.hid hmk
                clear hI hKD hbV hmk
                gi_wp2
                refine HK3.out _ _ (Handed.intro r3 (by omega) (HJ3.out _ _ _ ?_))
                have hk1 : ((k + 1 : Nat) : Int) = (k : Int) + 1 := by push_cast; rfl
                refine ⟨k + 1, D :: rs3, ?_⟩
                rw [hk1]
                (repeat apply Exists.intro)
                exact ⟨⟨by omega, HBV.out, HMkV.out⟩, rfl⟩
            · obtain rfl : r3 = 0 := by omega
              have hkm1 : (k : Int) = (m : Int) + 1 := by omega
              have hknl : ¬((k : Int) < (m : Int) + 1) := by omega
              clear hs'
              gi_wp2
              refine HK.out _ _ (Handed.intro r (by omega) (HJ.out _ _ _ ?_))
              have hi1 : ((i + 1 : Nat) : Int) = (i : Int) + 1 := by push_cast; rfl
              refine ⟨i + 1, rs3, ?_⟩
              rw [hi1]
              (repeat apply Exists.intro)
              exact ⟨⟨by omega, HW.out.trans (HW'.out.mono hsz), HMk'.out⟩, rfl⟩
        · obtain rfl : r = 0 := by omega
          have hinl : ¬((i : Int) < (n : Int) + 1) := by omega
          have hbt := HT.out.lt 0 (by omega)
          have hbn := HT.out.lt n (by omega)
          have b1 := HF.out.bd n (by omega) m (by omega)
          have b2 := HF.out.bd 0 (by omega) 0 (by omega)
          have wS : IntKind.i64.wrap (T n m - T 0 0) = T n m - T 0 0 := IntWalk.i64_in _ (by omega)
          have hnI : (n : Int) < ((n + 1 : Nat) : Int) := by omega
          have hmI : (m : Int) < ((m + 1 : Nat) : Int) := by omega
          have hnI2 : (n : Int) < (n : Int) + 1 := by omega
          have hmI2 : (m : Int) < (m : Int) + 1 := by omega
          have hz4 := HZ4.out
          have g0 := cell_h (k := 0) hs.2.1 rfl
          have g1 := hs.2.2.2.2.ct n (by omega)
          have g2 := hs.2.2.2.2.cr n (by omega) m (by omega)
          have g3 := hs.2.2.2.2.ct 0 (by omega)
          have g4 := hs.2.2.2.2.cr 0 (by omega) 0 (by omega)
          have h8 := hs.2.2.1
          have h9 := hs.2.2.2.1
          clear hs b1 b2
          gi_wp2
          refine wpIn_wide.2 ?_
          go_still_tail 15, (by kernel_rfl)
          change wpList _ _ _ _ _ W.drew
          obtain ⟨Wd, hWd⟩ : ∃ Wd, W.drew = Wd := ⟨_, rfl⟩
          have hbd : Below W.heap.size W Wd := by rw [← hWd]; exact (Below.refl _ _).drew
          replace h8 : Wd.heap[w.heap.size + 1 + 1]? = some (.cells #[.int .i64 0] 3 (0, 0)) := (hbd.block _ (by omega)).trans h8
          replace h9 : Wd.heap[w.heap.size + 1 + 1 + 1]? = some (.cells #[.int .i64 0] 28 (0, 0)) := (hbd.block _ (by omega)).trans h9
          rw [hWd]
          clear hWd g0 g1 g2 g3 g4
          have hmkd : MkAt w3.heap.size rs Wd := ⟨HMk.out.1, fun r hr => by
            obtain ⟨q1, q2, q3⟩ := HMk.out.2 r hr
            exact ⟨q1, Nat.lt_of_lt_of_le q2 hbd.size, (hbd.block _ q2).trans q3⟩⟩
          have o8 : Wd.cell? ⟨w.heap.size + 1 + 1, 0, none⟩ = some (.int .i64 0) := cell_h h8 rfl
          have z8 : Wd.frozen? ⟨w.heap.size + 1 + 1, 0, none⟩ = false := by simp [World.frozen?, h8]
          have o9 : Wd.cell? ⟨w.heap.size + 1 + 1 + 1, 0, none⟩ = some (.int .i64 0) := cell_h h9 rfl
          have z9 : Wd.frozen? ⟨w.heap.size + 1 + 1 + 1, 0, none⟩ = false := by simp [World.frozen?, h9]
          have hd0 : Below w.heap.size w Wd := HB4.out.trans ((HB43.out.mono hB4w).trans (hbd.mono (by omega)))
          have HD0 := Lib.hid hd0
          have HMd := Lib.hid hmkd
          have H8 := Lib.hid h8
          have H9 := Lib.hid h9
          clear hd0 hmkd h8 h9 hbd
          go_wp2_with fail
          obtain ⟨We, hWe⟩ : ∃ We, We = Wd.setCell ⟨w.heap.size + 1 + 1, 0, none⟩ (.int .i64 (T n m - T 0 0)) := ⟨_, rfl⟩
          obtain ⟨Wf, hWf⟩ : ∃ Wf, Wf = We.setCell ⟨w.heap.size + 1 + 1 + 1, 0, none⟩ (.int .i64 0) := ⟨_, rfl⟩
          have ke : ∀ j : Nat, j ≠ w.heap.size + 1 + 1 → We.heap[j]? = Wd.heap[j]? := fun j hj => by rw [hWe]; exact Below.heap_setCell _ ⟨w.heap.size + 1 + 1, 0, none⟩ _ j hj
          have kf : ∀ j : Nat, j ≠ w.heap.size + 1 + 1 + 1 → Wf.heap[j]? = We.heap[j]? := fun j hj => by rw [hWf]; exact Below.heap_setCell _ ⟨w.heap.size + 1 + 1 + 1, 0, none⟩ _ j hj
          have oe : We.os = Wd.os ∧ We.tape = Wd.tape ∧ We.output = Wd.output ∧ We.heap.size = Wd.heap.size := by rw [hWe]; exact ⟨rfl, rfl, rfl, by simp [World.setCell]⟩
          have of' : Wf.os = We.os ∧ Wf.tape = We.tape ∧ Wf.output = We.output ∧ Wf.heap.size = We.heap.size := by rw [hWf]; exact ⟨rfl, rfl, rfl, by simp [World.setCell]⟩
          have be : We.heap[w.heap.size + 1 + 1]? = some (.cells #[.int .i64 (T n m - T 0 0)] 3 (0, 0)) := by rw [hWe, heap_set H8.out _]; rfl
          have b9 : We.heap[w.heap.size + 1 + 1 + 1]? = some (.cells #[.int .i64 0] 28 (0, 0)) := (ke _ (by omega)).trans H9.out
          have bf : Wf.heap[w.heap.size + 1 + 1 + 1]? = some (.cells #[.int .i64 0] 28 (0, 0)) := by rw [hWf, heap_set b9 _]; rfl
          have be2 : Wf.heap[w.heap.size + 1 + 1]? = some (.cells #[.int .i64 (T n m - T 0 0)] 3 (0, 0)) := (kf _ (by omega)).trans be
          have hfin : Below w.heap.size w Wf := HD0.out.trans ⟨by rw [of'.1, oe.1], by rw [of'.2.1, oe.2.1], by rw [of'.2.2.1, oe.2.2.1], by omega, fun j hj => (kf j (by omega)).trans (ke j (by omega))⟩
          have hmkf : MkAt w3.heap.size rs Wf := ⟨HMd.out.1, fun r hr => by
            obtain ⟨q1, q2, q3⟩ := HMd.out.2 r hr
            exact ⟨q1, by omega, ((kf r (by omega)).trans (ke r (by omega))).trans q3⟩⟩
          rw [← hWe, ← hWf]
          have HFin := Lib.hid hfin
          have HMf := Lib.hid hmkf
          have HBf := Lib.hid bf
          have HBe := Lib.hid be2
          clear hfin hmkf bf be2 b9 be ke kf oe of' hWe hWf o8 z8 o9 z9
          gi_wp2
          refine leaves_mks (B := w.heap.size + 4) rs Wf ⟨HMf.out.1, fun r' hr => ?_⟩ (fun w' hb => ⟨.tuple #[.int .i64 (T n m - T 0 0), .int .i64 0], ?_, rfl, ?_⟩)
          · obtain ⟨q1, q2, q3⟩ := HMf.out.2 r' hr
            exact ⟨by omega, q2, q3⟩
          · have e8 : w'.cell? ⟨w.heap.size + 1 + 1, 0, none⟩ = some (.int .i64 (T n m - T 0 0)) := cell_h ((hb.block _ (by omega)).trans HBe.out) rfl
            have e9 : w'.cell? ⟨w.heap.size + 1 + 1 + 1, 0, none⟩ = some (.int .i64 0) := cell_h ((hb.block _ (by omega)).trans HBf.out) rfl
            simp [results, Try.f42, go_sem, asAddr, e8, e9]
          · exact HFin.out.trans (hb.mono (by omega))
theorem floor_of (w : World) (wa ha : Option Addr) (n wc m hc : Nat) (g h : Nat → Int) (L F M : Int) (bt : Nat) (rb : Nat → Nat) (T : Nat → Nat → Int) (s1 : Sl w 1 wa n g) (s2 : Sl w 1 ha m h) (i1 : I64s g n) (i2 : I64s h m) (hp : pbChk n m g h L F M = 0) (hT : TbAt w bt m rb T (n + 1)) (hF : FlT n m g h L F M T) :
    Calls Try.prog 42 #[.slice wa n wc, .slice ha m hc, .agg #[.int .i64 L, .int .i64 F, .int .i64 M], .slice (some ⟨bt, 0, none⟩) (n + 1) (n + 1)] w fun e w' => e = .returned (.tuple #[.int .i64 (T n m - T 0 0), .int .i64 0]) ∧ Below w.heap.size w w' :=
  (callsIn_wide (n := 5)).1 (floor_in w wa ha n wc m hc g h L F M bt rb T s1 s2 i1 i2 hp hT hF)
end Go.Proofs.Ytonlamkpehakdaa
