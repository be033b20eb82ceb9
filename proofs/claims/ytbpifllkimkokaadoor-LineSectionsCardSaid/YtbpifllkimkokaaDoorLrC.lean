/-
  WALKS: the reference's marks.
-/
import Derived.Test.YtbpifllkimkokaaDoorLrB
import Derived.Test.YtbpifllkimkokaaDoorLpF
namespace Go.Proofs.YtbpifllkimkokaaDoor
open Go.RowKit

set_option maxRecDepth 8000 in
set_option maxHeartbeats 6400000 in
theorem rmarks_of (w : World) (a za la : Option Addr) (n c nz zc nl lc : Nat) (f z m : Nat → Int) (h : chk n nz nl f z m = 0) (hS : Sl w 7 a n f) (hZ : Sl w 3 za nz z) (hL : Sl w 2 la nl m) :
    Calls Tryd.prog 73 #[.agg #[.slice a n c, .slice za nz zc, .slice la nl lc]] w fun e w' => (∃ v, e = .returned v ∧ RowL w' w.heap.size v (ascOf (allBs f z m n nz nl) ++ [endS f n])) ∧ Below w.heap.size w w' := by
  obtain ⟨i0, hi0, hz0, hz1, hz2⟩ := info_parts x_infoInt
  have hok := chk_ok h
  have hn : 1 ≤ n ∧ n ≤ 64 := hok.1
  have hnz : nz ≤ 64 := hok.2.1
  have hnl : nl ≤ 64 := hok.2.2.1
  have HST : Hid (∀ W', Below w.heap.size w W' → Calls Tryd.prog 21 #[.agg #[.slice a n c, .slice za nz zc, .slice la nl lc]] W' fun e W3 => (∃ v, e = .returned v ∧ W3.ownsRow W'.heap.size 3 1 v (n + 1) (irow (endS f) (n + 1))) ∧ Below W'.heap.size W' W3) :=
    fun W' hb => rstarts_of a za la n c nz zc nl lc f (by omega) hok.2.2.2.1 W' (hS.keep (by omega) hb)
  have HZ := Lib.hid hZ
  have HL := Lib.hid hL
  have HMs : Hid (∀ O : List Int, O.Pairwise (· < ·) → (∀ x, x ∈ O ↔ x ∈ allMs f z m n nz nl) → O = ascOf (allBs f z m n nz nl) ++ [endS f n]) := fun O h1 h2 => marks_list h h1 h2
  have HPos := Lib.hid (allMs_pos h)
  generalize ascOf (allBs f z m n nz nl) ++ [endS f n] = RES at HMs ⊢
  clear hS hZ hL hok h
  obtain ⟨W, hW⟩ : ∃ W, W = w.alloc (.cells #[.slice a n c, .slice za nz zc, .slice la nl lc] 31) := ⟨_, rfl⟩
  have hBW : Hid (Below w.heap.size w W) := by rw [hW]; exact (Below.refl _ _).alloc (Nat.le_refl _) _
  have hsz : w.heap.size + 1 = W.heap.size := by rw [hW]; simp
  have HX : Hid (W.cell? ⟨w.heap.size, 0, none⟩ = some (.slice a n c) ∧ W.cell? ⟨w.heap.size, 1, none⟩ = some (.slice za nz zc) ∧ W.cell? ⟨w.heap.size, 2, none⟩ = some (.slice la nl lc)) := by
    rw [hW]; exact ⟨by go_simp, by go_simp, by go_simp⟩
  have HW := Lib.hid hW
  have HSZ := Lib.hid hsz
  clear hW hsz
  go_enter Tryd.func73, Tryd.ntmps73
  go_wp2_with fail
  rw [← HW.out]
  refine (HST.out W hBW.out).mono ?_
  rintro e' w2 ⟨⟨v, rfl, hown⟩, hb2⟩
  have HD2 : Hid (Below W.heap.size W w2) := hb2
  have HR2 : Hid (RowL w2 W.heap.size v ((List.range (n + 1)).map (endS f))) := rowL_irow hown
  obtain ⟨L0, hL0⟩ : ∃ L, L = (List.range (n + 1)).map (endS f) := ⟨_, rfl⟩
  have hl0 : 1 ≤ L0.length ∧ L0.length ≤ 65 := by rw [hL0]; simp; omega
  rw [← hL0] at HR2
  have HL0 := Lib.hid hL0
  obtain ⟨g0, cap0, rfl⟩ := HR2.out.form (by omega)
  clear hb2 hown hL0
  go_wp2_with fail
  go_loopw [3, 4] (fun vs vi wr => ∃ (i : Nat) (L : List Int), i ≤ nz ∧ vi = .int .i64 i ∧ (1 ≤ L.length ∧ L.length ≤ 65 + 2 * i) ∧ Hid (L = L0 ++ zps z i) ∧ Hid (RowL wr W.heap.size vs L) ∧ Hid (Below W.heap.size W wr)) (fun _ vi _ => nz - (intOf vi).toNat)
  case atStart => exact ⟨0, L0, by omega, rfl, by omega, by show L0 = L0 ++ []; simp, HR2.out, HD2.out⟩
  case round =>
    obtain ⟨i, L, hi, rfl, hLl, HLe, HR, HD⟩ := hrel
    obtain ⟨g, cap, rfl⟩ := HR.out.form (by omega)
    have hss : W.heap.size ≤ wr.heap.size := HD.out.size
    have hX : wr.cell? ⟨w.heap.size, 0, none⟩ = some (.slice a n c) ∧ wr.cell? ⟨w.heap.size, 1, none⟩ = some (.slice za nz zc) ∧ wr.cell? ⟨w.heap.size, 2, none⟩ = some (.slice la nl lc) := three_keep HX.out HD.out
    have hgl : g < wr.heap.size := (HR.out.lt g rfl).2
    have hgb : W.heap.size ≤ g := (HR.out.lt g rfl).1
    by_cases hlt : i < nz
    · obtain ⟨b, o, rfl, hI⟩ := HZ.out (by omega)
      have hlb := hI.lt (by omega)
      obtain ⟨F, hF⟩ : ∃ F, F = z (i * 3) := ⟨_, rfl⟩
      obtain ⟨T, hT⟩ : ∃ T, T = z (i * 3 + 1) := ⟨_, rfl⟩
      have HNW : Hid (W.cell? ⟨w.heap.size, 0, none⟩ = some (.slice a n c) ∧ W.cell? ⟨w.heap.size, 1, none⟩ = some (.slice (some ⟨b, o, none⟩) nz zc) ∧ W.cell? ⟨w.heap.size, 2, none⟩ = some (.slice la nl lc) ∧ W.cell? ⟨b, o + i * 3, none⟩ = some (.int .i64 F) ∧ W.cell? ⟨b, o + i * 3 + 1, none⟩ = some (.int .i64 T)) :=
        ⟨HX.out.1, HX.out.2.1, HX.out.2.2, by rw [hF]; exact (hI.keep hBW.out hlb) (i * 3) (by omega), by rw [hT]; exact (hI.keep hBW.out hlb).at (i * 3) 1 (by omega)⟩
      have HLe2 : Hid (L ++ [F] ++ [T] = L0 ++ zps z (i + 1)) := by show _ = _; rw [hF, hT, HLe.out]; simp [zps]
      have hb1 : (0 : Int) ≤ (i : Int) := by omega
      have hb2 : (i : Int) < (nz : Int) := by omega
      have hNr := five_keepA HNW.out HD.out
      have HN0 : Hid (wr.drew.cell? ⟨w.heap.size, 0, none⟩ = some (.slice a n c) ∧ wr.drew.cell? ⟨w.heap.size, 1, none⟩ = some (.slice (some ⟨b, o, none⟩) nz zc) ∧ wr.drew.cell? ⟨w.heap.size, 2, none⟩ = some (.slice la nl lc) ∧ wr.drew.cell? ⟨b, o + i * 3, none⟩ = some (.int .i64 F) ∧ wr.drew.cell? ⟨b, o + i * 3 + 1, none⟩ = some (.int .i64 T)) := hNr
      have HNA := Lib.hid (five_keepA HN0.out ((Below.refl _ wr.drew).alloc (Nat.le_refl _) (.cells #[.int .i64 F, .int .i64 T] 3)))
      have HNA2 : Hid ((wr.alloc (.cells #[.int .i64 F, .int .i64 T] 3)).drew.cell? ⟨w.heap.size, 0, none⟩ = some (.slice a n c) ∧ (wr.alloc (.cells #[.int .i64 F, .int .i64 T] 3)).drew.cell? ⟨w.heap.size, 1, none⟩ = some (.slice (some ⟨b, o, none⟩) nz zc) ∧ (wr.alloc (.cells #[.int .i64 F, .int .i64 T] 3)).drew.cell? ⟨w.heap.size, 2, none⟩ = some (.slice la nl lc) ∧ (wr.alloc (.cells #[.int .i64 F, .int .i64 T] 3)).drew.cell? ⟨b, o + i * 3, none⟩ = some (.int .i64 F) ∧ (wr.alloc (.cells #[.int .i64 F, .int .i64 T] 3)).drew.cell? ⟨b, o + i * 3 + 1, none⟩ = some (.int .i64 T)) := HNA.out
      have hnews : ∀ j u, [Value.int .i64 F, .int .i64 T][j]? = some u → (wr.alloc (.cells #[.int .i64 F, .int .i64 T] 3)).drew.cell? ((⟨wr.heap.size, 0, none⟩ : Addr).add j) = some u := World.news_of_block (w := (wr.alloc (.cells #[.int .i64 F, .int .i64 T] 3)).drew) (heap_alloc_new wr _)
      have HNews := Lib.hid hnews
      clear hI hF hT hnews
      obtain ⟨x0, x1, x2, d0, d1⟩ := hNr
      go_wp2_with fail
      go_region_held3 (fun W' => W'.cell? ⟨w.heap.size, 0, none⟩ = some (.slice a n c) ∧ W'.cell? ⟨w.heap.size, 1, none⟩ = some (.slice (some ⟨b, o, none⟩) nz zc) ∧ W'.cell? ⟨w.heap.size, 2, none⟩ = some (.slice la nl lc) ∧ W'.cell? ⟨b, o + i * 3, none⟩ = some (.int .i64 F) ∧ W'.cell? ⟨b, o + i * 3 + 1, none⟩ = some (.int .i64 T))
        (first | (with_reducible exact HN0.out) | (with_reducible exact HNA.out) | (with_reducible exact HNA2.out) | (with_reducible exact hN5))
        ((refine step_append_lies _ (by rfl) (.tmp 18) (.tmp 31) 35 (by rfl) W.heap.size 3 i0 (.int .i64 0) 1 8 Tryd.underlying35 hi0 hz0 hz1 hz2 rfl (by decide) (.slice (some ⟨g, 0, none⟩) L.length cap) L.length (L.map (.int .i64)) (by simp [Act.eval]) (HR.out.alloc _) ⟨wr.heap.size, 0, none⟩ 2 2 [.int .i64 F, .int .i64 T] (by simp [Act.eval]) rfl HNews.out (by simp [Value.oneCell']) (by decide) (by unfold maxLen; omega) (by omega) (by simp; omega) _ rfl ?_; intro g2 cap2 w3 hown3 hg3 hat3 hlt3; (have hD3 : Below W.heap.size W w3 := ((HD.out.alloc hss _).drew).grown hg3 (by simp; omega) (fun k hk => by cases hk; exact hgb)); (have hN5 := five_keepA HNW.out hD3)))
      have HR3 : Hid (RowL w3 W.heap.size (.slice (some ⟨g2, 0, none⟩) (L.length + 2) cap2) (L ++ [F] ++ [T])) := RowL.snoc2 (by rw [List.append_assoc]; exact hown3)
      have HD3 := Lib.hid hD3
      have hl2 : (L ++ [F] ++ [T]).length = L.length + 2 := by simp
      have hl3 : 1 ≤ (L ++ [F] ++ [T]).length ∧ (L ++ [F] ++ [T]).length ≤ 65 + 2 * (i + 1) := by omega
      clear hown3 hg3 hat3 hD3 hN5 hl2 x0 x1 x2 d0 d1
      go_wp2
      exact ⟨⟨i + 1, L ++ [F] ++ [T], by omega, by go_num, hl3, HLe2.out, HR3.out, HD3.out⟩, by simp [intOf]; omega⟩
    · obtain rfl : i = nz := by omega
      obtain ⟨x0, x1, x2⟩ := hX
      go_wp2_with fail
      clear x0 x1 x2
      go_loopw [3, 5] (fun vs vi wr => ∃ (j : Nat) (M : List Int), j ≤ nl ∧ vi = .int .i64 j ∧ (1 ≤ M.length ∧ M.length ≤ 65 + 2 * i + j) ∧ Hid (M = L ++ lbs m j) ∧ Hid (RowL wr W.heap.size vs M) ∧ Hid (Below W.heap.size W wr)) (fun _ vi _ => nl - (intOf vi).toNat)
      case atStart => exact ⟨0, L, by omega, rfl, by omega, by show L = L ++ []; simp, HR.out, HD.out⟩
      case round =>
        obtain ⟨j, M, hj, rfl, hMl, HMe, HR, HD⟩ := hrel
        obtain ⟨g, cap, rfl⟩ := HR.out.form (by omega)
        have hss : W.heap.size ≤ wr.heap.size := HD.out.size
        have hX : wr.cell? ⟨w.heap.size, 0, none⟩ = some (.slice a n c) ∧ wr.cell? ⟨w.heap.size, 1, none⟩ = some (.slice za i zc) ∧ wr.cell? ⟨w.heap.size, 2, none⟩ = some (.slice la nl lc) := three_keep HX.out HD.out
        have hgb : W.heap.size ≤ g := (HR.out.lt g rfl).1
        by_cases hlt : j < nl
        · obtain ⟨b, o, rfl, hI⟩ := HL.out (by omega)
          have hlb := hI.lt (by omega)
          have hI2 := hI.keep (hBW.out.trans (HD.out.mono hBW.out.size)) hlb
          have d0 := hI2 (j * 2) (by omega)
          obtain ⟨x0, x1, x2⟩ := hX
          obtain ⟨F, hF⟩ : ∃ F, F = m (j * 2) := ⟨_, rfl⟩
          rw [← hF] at d0
          have HLB : Hid (M ++ [F] = L ++ lbs m (j + 1)) := by show _ = _; rw [hF, lbs_succ, HMe.out]; simp
          have hb1 : (0 : Int) ≤ (j : Int) := by omega
          have hb2 : (j : Int) < (nl : Int) := by omega
          clear hI hI2 hF
          go_wp2_with (at_builtin; refine wpList_append_lies _ rfl (.tmp 40) (.tmp 47) 35 rfl W.heap.size 3 i0 (.int .i64 0) 1 8 Tryd.underlying35 hi0 hz0 hz1 hz2 rfl (by decide) (.slice (some ⟨g, 0, none⟩) M.length cap) M.length (M.map (.int .i64)) rfl (HR.out.alloc _) ⟨wr.heap.size, 0, none⟩ 1 1 [.int .i64 F] rfl rfl (cell_one_new _ _ _) (by simp [Value.oneCell']) (by decide) (by unfold maxLen; omega) (by omega) (by simp; omega) (wr.heap.size + 1) (by simp) ?_; intro g2 cap2 w3 hown3 hg3 hat3 hlt3)
          have HD3 : Hid (Below W.heap.size W w3) := (HD.out.alloc hss _).grown hg3 (by simp; omega) (fun k hk => by cases hk; exact hgb)
          have HR3 : Hid (RowL w3 W.heap.size (.slice (some ⟨g2, 0, none⟩) (M.length + 1) cap2) (M ++ [F])) := RowL.snoc hown3
          have hl2 : (M ++ [F]).length = M.length + 1 := by simp
          have hl3 : 1 ≤ (M ++ [F]).length ∧ (M ++ [F]).length ≤ 65 + 2 * i + (j + 1) := by omega
          clear hown3 hg3 hat3 hl2 x0 x1 x2 d0
          go_wp2
          exact ⟨⟨j + 1, M ++ [F], by omega, by go_num, hl3, HLB.out, HR3.out, HD3.out⟩, by simp [intOf]; omega⟩
        · obtain rfl : j = nl := by omega
          have HAe : Hid (M = allMs f z m n i j) := by show _ = _; unfold allMs; rw [HMe.out, HLe.out, HL0.out]
          have HPo : Hid (∀ x ∈ M, 0 ≤ x) := by rw [HAe.out]; exact HPos.out
          have HFi : Hid (∀ O : List Int, O.Pairwise (· < ·) → (∀ x, x ∈ O ↔ x ∈ M) → O = RES) := by rw [HAe.out]; exact HMs.out
          obtain ⟨x0, x1, x2⟩ := hX
          obtain ⟨w5, hw5⟩ : ∃ w5, w5 = wr := ⟨_, rfl⟩
          have HB5 : Hid (Below w.heap.size w w5) := by rw [hw5]; exact hBW.out.trans (HD.out.mono hBW.out.size)
          have HR5 : Hid (RowL w5 W.heap.size (.slice (some ⟨g, 0, none⟩) M.length cap) M) := by rw [hw5]; exact HR.out
          have hg5 : g < w5.heap.size := (HR5.out.lt g rfl).2
          have HSS : Hid (w.heap.size ≤ w5.heap.size) := HB5.out.size
          go_wp2_with fail
          rw [← hw5]
          clear hw5 x0 x1 x2
          go_loopw [6] (fun vo wr => ∃ (O : List Int) (kO : Nat), kO ≤ M.length ∧ Hid (O.length = kO) ∧ Hid (Sel M O) ∧ (∃ a k, vo = .slice a kO k) ∧ Hid (RowL wr w5.heap.size vo O) ∧ Hid (Below w5.heap.size w5 wr)) (fun vo _ => M.length - slLen vo)
          case atStart => exact ⟨[], 0, by omega, rfl, sel_nil M, ⟨none, 0, rfl⟩, World.ownsRow_nil _ _ _ _, Below.refl _ _⟩
          case round =>
            obtain ⟨O, kO, hOl, hkO, HSel, ⟨oa, ok, rfl⟩, HRO, HDO⟩ := hrel
            rename World => wo
            have hso := HDO.out.size
            have hform : (kO = 0 ∧ ∀ a, Abv O a) ∨ (∃ (q : Nat) (l : Int) (go : Nat), kO = q + 1 ∧ oa = some ⟨go, 0, none⟩ ∧ wo.cell? ⟨go, q, none⟩ = some (.int .i64 l) ∧ ∀ a, Abv O a ↔ l < a) := by
              rcases List.eq_nil_or_concat O with rfl | ⟨O0, l, rfl⟩
              · exact .inl ⟨hkO.out.symm, abv_nil⟩
              · rw [List.concat_eq_append] at hkO HRO HSel ⊢
                obtain ⟨go, co, he⟩ := RowL.form HRO.out (by simp)
                have hk2 : kO = O0.length + 1 := by rw [← hkO.out]; simp
                have he2 : oa = some ⟨go, 0, none⟩ ∧ ok = co := by
                  have := Value.slice.inj he
                  exact ⟨this.1, this.2.2⟩
                have h1 : RowL wo w5.heap.size (.slice (some ⟨go, 0, none⟩) (O0 ++ [l]).length co) (O0 ++ [l]) := by
                  have := HRO.out
                  rw [he] at this
                  exact this
                have h2 := h1.cell O0.length (by simp)
                rw [List.getElem_concat_length rfl] at h2
                exact .inr ⟨O0.length, l, go, hk2, he2.1, h2, fun a => abv_snoc HSel.out.1⟩
            rcases hform with ⟨rfl, hab⟩ | ⟨q, l, go, rfl, rfl, hcl, hab⟩
            · have hab := Lib.hid hab
              go_wp2_with fail
              go_loopw [7, 8] (fun vn vi wq => ∃ (i : Nat) (nx : Int), i ≤ M.length ∧ vi = .int .i64 i ∧ vn = .int .i64 nx ∧ Hid (MinP M O i nx) ∧ Hid (∃ q, wq = wo.drewN q)) (fun _ vi _ => M.length - (intOf vi).toNat)
              case atStart => exact ⟨0, -1, by omega, rfl, rfl, .inl ⟨rfl, by simp⟩, ⟨0, rfl⟩⟩
              case round =>
                obtain ⟨i, nx, hi, rfl, rfl, HMin, HQ⟩ := hrel
                have hbq := drewN_below HQ.out wo.heap.size
                by_cases hlt : i < M.length
                · have dA := (hbq.cell (p := ⟨g, i, none⟩) (Nat.lt_of_lt_of_le hg5 hso)).trans ((HDO.out.cell (p := ⟨g, i, none⟩) hg5).trans (HR5.out.cell i hlt))
                  have hA0 := HPo.out _ (List.getElem_mem hlt)
                  have HSk : Hid ((¬ Abv O (M[i]'hlt) ∨ (0 ≤ nx ∧ nx ≤ M[i]'hlt)) → MinP M O (i + 1) nx) := HMin.out.skip hlt
                  have HTk : Hid (Abv O (M[i]'hlt) → (nx < 0 ∨ M[i]'hlt < nx) → MinP M O (i + 1) (M[i]'hlt)) := fun h1 h2 => HMin.out.take hlt hA0 h1 h2
                  generalize M[i]'hlt = A at dA hA0 HSk HTk
                  have s1 : (0 : Int) ≤ (i : Int) := by omega
                  have s2 : (i : Int) < (M.length : Int) := by omega
                  clear hbq
                  have HAb := hab.out A
                  by_cases hn0 : nx < 0
                  · have p2 : decide (nx < 0) = true := by simpa using hn0
                    have HNew : Hid (MinP M O (i + 1) A) := HTk.out (HAb) (.inl hn0)
                    clear hn0
                    go_wp2
                    go_quiet (fail)
                    go_wp2
                    exact ⟨⟨i + 1, A, by omega, by go_num, rfl, HNew.out, drewN_more HQ.out _⟩, by simp [intOf]; omega⟩
                  · have p2 : decide (nx < 0) = false := by simpa using hn0
                    by_cases hn1 : A < nx
                    · have p3 : decide (A < nx) = true := by simpa using hn1
                      have HNew : Hid (MinP M O (i + 1) A) := HTk.out (HAb) (.inr hn1)
                      clear hn0 hn1
                      go_wp2
                      go_quiet (fail)
                      go_wp2
                      exact ⟨⟨i + 1, A, by omega, by go_num, rfl, HNew.out, drewN_more HQ.out _⟩, by simp [intOf]; omega⟩
                    · have p3 : decide (A < nx) = false := by simpa using hn1
                      have HNew : Hid (MinP M O (i + 1) nx) := HSk.out (.inr ⟨by omega, by omega⟩)
                      clear hn0 hn1
                      go_wp2
                      go_quiet (fail)
                      go_wp2
                      exact ⟨⟨i + 1, nx, by omega, by go_num, rfl, HNew.out, drewN_more HQ.out _⟩, by simp [intOf]; omega⟩
                · obtain rfl : i = M.length := by omega
                  clear hbq
                  by_cases hn0 : nx < 0
                  · have p2 : decide (nx < 0) = true := by simpa using hn0
                    have HE : Hid (O = RES) := HFi.out O HSel.out.1 (HSel.out.done HMin.out hn0)
                    clear hn0
                    go_wp2
                    go_ret
                    have HDq := drewN_below HQ.out wo.heap.size
                    refine ⟨⟨_, rfl, ?_⟩, HB5.out.trans ((HDO.out.trans (HDq.mono hso)).mono HB5.out.size)⟩
                    rw [← HE.out]
                    exact (HRO.out.below HDq).base HB5.out.size
                  · have p2 : decide (nx < 0) = false := by simpa using hn0
                    have hsn := HSel.out.snoc HMin.out (by omega)
                    have HSn := Lib.hid hsn.1
                    have hln : (O ++ [nx]).length = 0 + 1 := by rw [List.length_append, hkO.out]; rfl
                    have hlM : 0 + 1 ≤ M.length := by rw [← hln]; exact hsn.2
                    have HDq : Hid (Below wo.heap.size wo wr) := drewN_below HQ.out wo.heap.size
                    have HROq : Hid (wr.ownsRow w5.heap.size 3 1 (.slice oa 0 ok) 0 (O.map (.int .i64))) := by
                      have h1 := HRO.out.below HDq.out
                      unfold RowL at h1
                      rw [hkO.out] at h1
                      exact h1
                    have hsq : w5.heap.size ≤ wr.heap.size := Nat.le_trans hso HDq.out.size
                    clear hn0 hsn
                    go_wp2_with (at_builtin; refine wpList_append_lies _ rfl (.tmp 90) (.tmp 92) 35 rfl w5.heap.size 3 i0 (.int .i64 0) 1 8 Tryd.underlying35 hi0 hz0 hz1 hz2 rfl (by decide) (.slice oa 0 ok) 0 (O.map (.int .i64)) rfl (HROq.out.alloc _) ⟨wr.heap.size, 0, none⟩ 1 1 [.int .i64 nx] rfl rfl (cell_one_new _ _ _) (by simp [Value.oneCell']) (by decide) (by unfold maxLen; omega) (by omega) (by simp; omega) (wr.heap.size + 1) (by simp) ?_; intro g2 cap2 w7 hown7 hg7 hat7 hlt7)
                    have HR7 : Hid (RowL w7 w5.heap.size (.slice (some ⟨g2, 0, none⟩) (0 + 1) cap2) (O ++ [nx])) := RowL.snoc (by rw [hkO.out]; exact hown7)
                    have HD7 : Hid (Below w5.heap.size w5 w7) := ((HDO.out.trans (HDq.out.mono hso)).alloc hsq _).grown hg7 (by simp; omega) (fun k hk => (HROq.out.lt k hk).1)
                    have HLn : Hid ((O ++ [nx]).length = 0 + 1) := hln
                    clear hown7 hg7 hat7 hln
                    go_wp2
                    exact ⟨⟨O ++ [nx], 0 + 1, by omega, HLn.out, HSn.out, ⟨_, _, rfl⟩, HR7.out, HD7.out⟩, by simp [slLen]; omega⟩
            · have hab := Lib.hid hab
              go_wp2_with fail
              go_loopw [7, 8] (fun vn vi wq => ∃ (i : Nat) (nx : Int), i ≤ M.length ∧ vi = .int .i64 i ∧ vn = .int .i64 nx ∧ Hid (MinP M O i nx) ∧ Hid (∃ q, wq = wo.drewN q)) (fun _ vi _ => M.length - (intOf vi).toNat)
              case atStart => exact ⟨0, -1, by omega, rfl, rfl, .inl ⟨rfl, by simp⟩, ⟨0, rfl⟩⟩
              case round =>
                obtain ⟨i, nx, hi, rfl, rfl, HMin, HQ⟩ := hrel
                have hbq := drewN_below HQ.out wo.heap.size
                by_cases hlt : i < M.length
                · have dA := (hbq.cell (p := ⟨g, i, none⟩) (Nat.lt_of_lt_of_le hg5 hso)).trans ((HDO.out.cell (p := ⟨g, i, none⟩) hg5).trans (HR5.out.cell i hlt))
                  have hA0 := HPo.out _ (List.getElem_mem hlt)
                  have HSk : Hid ((¬ Abv O (M[i]'hlt) ∨ (0 ≤ nx ∧ nx ≤ M[i]'hlt)) → MinP M O (i + 1) nx) := HMin.out.skip hlt
                  have HTk : Hid (Abv O (M[i]'hlt) → (nx < 0 ∨ M[i]'hlt < nx) → MinP M O (i + 1) (M[i]'hlt)) := fun h1 h2 => HMin.out.take hlt hA0 h1 h2
                  generalize M[i]'hlt = A at dA hA0 HSk HTk
                  have s1 : (0 : Int) ≤ (i : Int) := by omega
                  have s2 : (i : Int) < (M.length : Int) := by omega
                  have dl := (hbq.cell (World.block_lt_of_cell? wo _ hcl)).trans hcl
                  have t1 : IntKind.i64.wrap ((q : Int) + 1 - 1) = (q : Int) := by rw [IntWalk.i64_in _ (by omega)]; omega
                  have t2 : IntKind.i64.wrap (q : Int) = (q : Int) := IntWalk.i64_in _ (by omega)
                  have t3 : (0 : Int) ≤ (q : Int) := by omega
                  have t4 : (q : Int) < (q : Int) + 1 := by omega
                  have t5 : ((q : Int) + 1 == 0) = false := by rw [beq_eq_false_iff_ne]; omega
                  clear hbq
                  by_cases hla : l < A
                  · have p1 : decide (l < A) = true := by simpa using hla
                    have HAb := (hab.out A).2 hla
                    clear hla
                    by_cases hn0 : nx < 0
                    · have p2 : decide (nx < 0) = true := by simpa using hn0
                      have HNew : Hid (MinP M O (i + 1) A) := HTk.out (HAb) (.inl hn0)
                      clear hn0
                      go_wp2
                      go_quiet (fail)
                      go_wp2
                      exact ⟨⟨i + 1, A, by omega, by go_num, rfl, HNew.out, drewN_more HQ.out _⟩, by simp [intOf]; omega⟩
                    · have p2 : decide (nx < 0) = false := by simpa using hn0
                      by_cases hn1 : A < nx
                      · have p3 : decide (A < nx) = true := by simpa using hn1
                        have HNew : Hid (MinP M O (i + 1) A) := HTk.out (HAb) (.inr hn1)
                        clear hn0 hn1
                        go_wp2
                        go_quiet (fail)
                        go_wp2
                        exact ⟨⟨i + 1, A, by omega, by go_num, rfl, HNew.out, drewN_more HQ.out _⟩, by simp [intOf]; omega⟩
                      · have p3 : decide (A < nx) = false := by simpa using hn1
                        have HNew : Hid (MinP M O (i + 1) nx) := HSk.out (.inr ⟨by omega, by omega⟩)
                        clear hn0 hn1
                        go_wp2
                        go_quiet (fail)
                        go_wp2
                        exact ⟨⟨i + 1, nx, by omega, by go_num, rfl, HNew.out, drewN_more HQ.out _⟩, by simp [intOf]; omega⟩
                  · have p1 : decide (l < A) = false := by simpa using hla
                    have HNew : Hid (MinP M O (i + 1) nx) := HSk.out (.inl fun h => hla ((hab.out A).1 h))
                    clear hla
                    go_wp2
                    go_quiet (fail)
                    go_wp2
                    exact ⟨⟨i + 1, nx, by omega, by go_num, rfl, HNew.out, drewN_more HQ.out _⟩, by simp [intOf]; omega⟩
                · obtain rfl : i = M.length := by omega
                  clear hbq
                  by_cases hn0 : nx < 0
                  · have p2 : decide (nx < 0) = true := by simpa using hn0
                    have HE : Hid (O = RES) := HFi.out O HSel.out.1 (HSel.out.done HMin.out hn0)
                    clear hn0
                    go_wp2
                    go_ret
                    have HDq := drewN_below HQ.out wo.heap.size
                    refine ⟨⟨_, rfl, ?_⟩, HB5.out.trans ((HDO.out.trans (HDq.mono hso)).mono HB5.out.size)⟩
                    rw [← HE.out]
                    exact (HRO.out.below HDq).base HB5.out.size
                  · have p2 : decide (nx < 0) = false := by simpa using hn0
                    have hsn := HSel.out.snoc HMin.out (by omega)
                    have HSn := Lib.hid hsn.1
                    have hln : (O ++ [nx]).length = q + 1 + 1 := by rw [List.length_append, hkO.out]; rfl
                    have hlM : q + 1 + 1 ≤ M.length := by rw [← hln]; exact hsn.2
                    have HDq : Hid (Below wo.heap.size wo wr) := drewN_below HQ.out wo.heap.size
                    have HROq : Hid (wr.ownsRow w5.heap.size 3 1 (.slice (some ⟨go, 0, none⟩) (q + 1) ok) (q + 1) (O.map (.int .i64))) := by
                      have h1 := HRO.out.below HDq.out
                      unfold RowL at h1
                      rw [hkO.out] at h1
                      exact h1
                    have hsq : w5.heap.size ≤ wr.heap.size := Nat.le_trans hso HDq.out.size
                    clear hn0 hsn
                    go_wp2_with (at_builtin; refine wpList_append_lies _ rfl (.tmp 90) (.tmp 92) 35 rfl w5.heap.size 3 i0 (.int .i64 0) 1 8 Tryd.underlying35 hi0 hz0 hz1 hz2 rfl (by decide) (.slice (some ⟨go, 0, none⟩) (q + 1) ok) (q + 1) (O.map (.int .i64)) rfl (HROq.out.alloc _) ⟨wr.heap.size, 0, none⟩ 1 1 [.int .i64 nx] rfl rfl (cell_one_new _ _ _) (by simp [Value.oneCell']) (by decide) (by unfold maxLen; omega) (by omega) (by simp; omega) (wr.heap.size + 1) (by simp) ?_; intro g2 cap2 w7 hown7 hg7 hat7 hlt7)
                    have HR7 : Hid (RowL w7 w5.heap.size (.slice (some ⟨g2, 0, none⟩) (q + 1 + 1) cap2) (O ++ [nx])) := RowL.snoc (by rw [hkO.out]; exact hown7)
                    have HD7 : Hid (Below w5.heap.size w5 w7) := ((HDO.out.trans (HDq.out.mono hso)).alloc hsq _).grown hg7 (by simp; omega) (fun k hk => (HROq.out.lt k hk).1)
                    have HLn : Hid ((O ++ [nx]).length = q + 1 + 1) := hln
                    clear hown7 hg7 hat7 hln
                    go_wp2
                    exact ⟨⟨O ++ [nx], q + 1 + 1, by omega, HLn.out, HSn.out, ⟨_, _, rfl⟩, HR7.out, HD7.out⟩, by simp [slLen]; omega⟩
end Go.Proofs.YtbpifllkimkokaaDoor
