/-
  WALKS: traps: Route of the reference.
-/
import Derived.Test.YtmdniebedflpbaaGreatDoorVsI
namespace Go.Proofs.YtmdniebedflpbaaGreatDoor
open Go.RowKit

/-- What the reference's Route keeps: the trap's box, and the route. -/
structure Rq (w W : World) (v : Value) (t : Tp) (L : List Int) : Prop where
  box : W.heap[w.heap.size]? = some (.cells #[.bool t.m, .bool t.k, .bool t.v, .bool t.u, .bool t.d, .int .i64 t.p, .int .i64 t.g, .int .i64 t.i] 24 (0, 0))
  row : W.ownsRow (w.heap.size + 1) 3 1 v L.length (irw L)
  below : Below w.heap.size w W

def natI : Value → Nat
  | .int _ z => z.toNat
  | _ => 0
theorem Rq.app {w W W1 : World} {v v1 : Value} {t : Tp} {L : List Int} (h : Rq w W v t L) (c : Int) (hown : W1.ownsRow (w.heap.size + 1) 3 1 v1 (L.length + 1) (irw L ++ [.int .i64 c])) (hb : Below (w.heap.size + 1) W W1) : Rq w W1 v1 t (L ++ [c]) :=
  ⟨(hb.block _ (by omega)).trans h.box, by rw [irw_snoc, List.length_append]; exact hown, h.below.trans (hb.mono (by omega))⟩

set_option maxRecDepth 100000 in
set_option maxHeartbeats 16000000 in
theorem rroute_of (w : World) (t : Tp) : Calls Tryz.prog 12 #[t.val] w (RtEnd w t.rt) := by
  have HC : Hid (∀ W, Calls Tryz.prog 14 #[t.val] W fun e w' => e = .returned (.int .i64 t.err) ∧ Below W.heap.size W w') := fun W => rcheckTrap_of W t
  have HS : Hid (∀ W, Calls Tryz.prog 16 #[t.val] W fun e w' => e = .returned (.bool t.safe) ∧ Below W.heap.size W w') := fun W => rsafe_of W t
  have hw := t.rt_ways
  obtain ⟨r, hr⟩ : ∃ r, t.rt = r := ⟨_, rfl⟩
  rw [hr] at hw ⊢
  clear hr
  obtain ⟨e0, he0⟩ : ∃ e0, t.err = e0 := ⟨_, rfl⟩
  rw [he0] at HC hw
  obtain ⟨s0, hs0⟩ : ∃ s0, t.safe = s0 := ⟨_, rfl⟩
  rw [hs0] at HS hw
  clear he0 hs0
  rcases hw with ⟨_, rfl, rfl⟩ | ⟨_, rfl, rfl, rfl⟩ | ⟨_, rfl, rfl, hd, rfl⟩ | ⟨hok, rfl, rfl, hd, rfl⟩
  · obtain ⟨m, k, v, u, d, p, g, i⟩ := t
    dsimp only [Tp.val] at HC ⊢
    clear HS
    go_enter Tryz.func12, Tryz.ntmps12
    go_wp2_with fail
    refine (HC.out _).mono ?_
    rintro e V ⟨rfl, hV⟩
    have HV : Hid (Below w.heap.size w V) := low_trans ((Below.refl _ _).alloc (Nat.le_refl _) _) hV
    clear hV HC
    go_wp2_with fail
    refine bodyPost_ret (v := .tuple #[.slice none 0 0, .int .i64 1]) (by simp [results, Tryz.f12, go_sem]) rfl ⟨_, rfl, World.ownsRow_nil _ _ _ _, HV.out⟩
  · obtain ⟨m, k, v, u, d, p, g, i⟩ := t
    dsimp only [Tp.val] at HC HS ⊢
    go_enter Tryz.func12, Tryz.ntmps12
    go_wp2_with fail
    refine (HC.out _).mono ?_
    rintro e V ⟨rfl, hV⟩
    have HV : Hid (Below w.heap.size w V) := low_trans ((Below.refl _ _).alloc (Nat.le_refl _) _) hV
    have c0 := (hV.block _ (by simp)).trans (new_heap w _)
    have s0 := cell_h (k := 0) c0 rfl
    have s1 := cell_h (k := 1) c0 rfl
    have s2 := cell_h (k := 2) c0 rfl
    have s3 := cell_h (k := 3) c0 rfl
    have s4 := cell_h (k := 4) c0 rfl
    have s5 := cell_h (k := 5) c0 rfl
    have s6 := cell_h (k := 6) c0 rfl
    have s7 := cell_h (k := 7) c0 rfl
    have C0 := Lib.hid c0
    clear hV HC c0
    go_wp2_with fail
    refine (HS.out _).mono ?_
    rintro e V2 ⟨rfl, hV⟩
    have HV2 := Lib.hid (low_trans HV.out hV)
    have c0 := (hV.block _ (Array.getElem?_eq_some_iff.1 C0.out).1).trans C0.out
    clear hV HS HV s0 s1 s2 s3 s4 s5 s6 s7 C0
    have s4 := cell_h (k := 4) c0 rfl
    clear s4 c0
    go_wp2_with fail
    refine bodyPost_ret (v := .tuple #[.slice none 0 0, .int .i64 100]) (by simp [results, Tryz.f12, go_sem]) rfl ⟨_, rfl, World.ownsRow_nil _ _ _ _, HV2.out⟩
  · obtain ⟨m, k, v, u, d, p, g, i⟩ := t
    dsimp only at hd
    subst hd
    dsimp only [Tp.val] at HC HS ⊢
    go_enter Tryz.func12, Tryz.ntmps12
    go_wp2_with fail
    refine (HC.out _).mono ?_
    rintro e V ⟨rfl, hV⟩
    have HV : Hid (Below w.heap.size w V) := low_trans ((Below.refl _ _).alloc (Nat.le_refl _) _) hV
    have c0 := (hV.block _ (by simp)).trans (new_heap w _)
    have s0 := cell_h (k := 0) c0 rfl
    have s1 := cell_h (k := 1) c0 rfl
    have s2 := cell_h (k := 2) c0 rfl
    have s3 := cell_h (k := 3) c0 rfl
    have s4 := cell_h (k := 4) c0 rfl
    have s5 := cell_h (k := 5) c0 rfl
    have s6 := cell_h (k := 6) c0 rfl
    have s7 := cell_h (k := 7) c0 rfl
    have C0 := Lib.hid c0
    clear hV HC c0
    go_wp2_with fail
    refine (HS.out _).mono ?_
    rintro e V2 ⟨rfl, hV⟩
    have HV2 := Lib.hid (low_trans HV.out hV)
    have c0 := (hV.block _ (Array.getElem?_eq_some_iff.1 C0.out).1).trans C0.out
    clear hV HS HV s0 s1 s2 s3 s4 s5 s6 s7 C0
    have s4 := cell_h (k := 4) c0 rfl
    clear c0
    go_wp2_with fail
    refine bodyPost_ret (v := .tuple #[.slice none 0 0, .int .i64 0]) (by simp [results, Tryz.f12, go_sem]) rfl ⟨_, rfl, World.ownsRow_nil _ _ _ _, HV2.out⟩
  · obtain ⟨m, k, v, u, d, p, g, i⟩ := t
    dsimp only at hd
    subst hd
    obtain ⟨hp, hg, hi⟩ := hok
    dsimp only at hp hg hi
    obtain ⟨TT, hTT⟩ : ∃ TT, (Tp.mk m k v u false p g i).route = TT := ⟨_, rfl⟩
    rw [hTT]
    have HTT := Lib.hid hTT
    clear hTT
    dsimp only [Tp.val] at HC HS ⊢
    go_enter Tryz.func12, Tryz.ntmps12
    go_wp2_with fail
    refine (HC.out _).mono ?_
    rintro e V ⟨rfl, hV⟩
    have HV : Hid (Below w.heap.size w V) := low_trans ((Below.refl _ _).alloc (Nat.le_refl _) _) hV
    have c0 := (hV.block _ (by simp)).trans (new_heap w _)
    have s0 := cell_h (k := 0) c0 rfl
    have s1 := cell_h (k := 1) c0 rfl
    have s2 := cell_h (k := 2) c0 rfl
    have s3 := cell_h (k := 3) c0 rfl
    have s4 := cell_h (k := 4) c0 rfl
    have s5 := cell_h (k := 5) c0 rfl
    have s6 := cell_h (k := 6) c0 rfl
    have s7 := cell_h (k := 7) c0 rfl
    have C0 := Lib.hid c0
    clear hV HC c0
    go_wp2_with fail
    refine (HS.out _).mono ?_
    rintro e V2 ⟨rfl, hV⟩
    have HV2 := Lib.hid (low_trans HV.out hV)
    have c0 := (hV.block _ (Array.getElem?_eq_some_iff.1 C0.out).1).trans C0.out
    clear hV HS HV s0 s1 s2 s3 s4 s5 s6 s7 C0
    have s4 := cell_h (k := 4) c0 rfl
    have R0 : Hid (Rq w V2 (.slice none 0 0) ⟨m, k, v, u, false, p, g, i⟩ []) := ⟨c0, World.ownsRow_nil _ _ _ _, HV2.out⟩
    obtain ⟨i0, hi0, hz0, hz1, hz2⟩ := info_parts x_int
    clear c0 HV2
    obtain ⟨L0, hL0⟩ : ∃ L0 : List Int, [] = L0 := ⟨_, rfl⟩
    rw [hL0] at R0
    have hl0 : L0.length = 0 := by rw [← hL0]; rfl
    have hz := (Array.getElem?_eq_some_iff.1 R0.out.box).1
    have s0 := cell_h (k := 0) R0.out.box rfl
    go_upto_if 20 with fail
    clear s4
    obtain ⟨L1, hL1⟩ : ∃ L1, adL L0 m 1 = L1 := ⟨_, rfl⟩
    have hl1 : L1.length ≤ L0.length + 1 := by rw [← hL1]; exact adL_len _ _ _
    go_cut [5] (fun s5 wx => Hid (Rq w wx s5 ⟨m, k, v, u, false, p, g, i⟩ L1))
    case first =>
      cases m
      · obtain rfl : L0 = L1 := hL1
        go_wp2_with fail
        go_meet
        exact R0
      · obtain rfl : L0 ++ [1] = L1 := hL1
        go_wp2_with (at_builtin; refine wpList_append_own _ rfl _ _ 30 rfl (w.heap.size + 1) 3 i0 (.int .i64 0) 1 8 Tryz.underlying30 hi0 hz0 hz1 hz2 rfl (by decide) _ (List.length L0) _ rfl (R0.out.row.alloc _) ⟨V2.heap.size, 0, none⟩ 1 1 [.int .i64 1] rfl rfl (cell_one _ _ _) (by simp [Value.oneCell']) (by unfold maxLen; omega) (by omega) (by simp; omega) ?_; intro v1 W1 hown1 hgrow1 hnil1; clear hnil1; have hb1 : Below (w.heap.size + 1) V2 W1 := ((Below.refl _ V2).alloc (by omega) _).grown hgrow1 (by simp; omega) (fun j hj => (R0.out.row.lt j hj).1); have R1 := Lib.hid (R0.out.app 1 hown1 hb1); clear hown1 hgrow1 hb1)
        go_meet
        exact R1
    case rest =>
      obtain ⟨v1, rfl, R1⟩ : ∃ vv, vv = _ ∧ Hid (Rq w wc vv ⟨m, k, v, u, false, p, g, i⟩ L1) := ⟨_, rfl, hcut⟩
      clear hcut R0 hz s0
      have hz := (Array.getElem?_eq_some_iff.1 R1.out.box).1
      have s1 := cell_h (k := 1) R1.out.box rfl
      go_upto_if 25 with fail
      obtain ⟨L2, hL2⟩ : ∃ L2, adL L1 k 3 = L2 := ⟨_, rfl⟩
      have hl2 : L2.length ≤ L1.length + 1 := by rw [← hL2]; exact adL_len _ _ _
      go_cut [5] (fun s5 wx => Hid (Rq w wx s5 ⟨m, k, v, u, false, p, g, i⟩ L2))
      case first =>
        cases k
        · obtain rfl : L1 = L2 := hL2
          go_wp2_with fail
          go_meet
          exact R1
        · obtain rfl : L1 ++ [3] = L2 := hL2
          go_wp2_with (at_builtin; refine wpList_append_own _ rfl _ _ 30 rfl (w.heap.size + 1) 3 i0 (.int .i64 0) 1 8 Tryz.underlying30 hi0 hz0 hz1 hz2 rfl (by decide) _ (List.length L1) _ rfl (R1.out.row.alloc _) ⟨wc.heap.size, 0, none⟩ 1 1 [.int .i64 3] rfl rfl (cell_one _ _ _) (by simp [Value.oneCell']) (by unfold maxLen; omega) (by omega) (by simp; omega) ?_; intro v1 W1 hown1 hgrow1 hnil1; clear hnil1; have hb1 : Below (w.heap.size + 1) wc W1 := ((Below.refl _ wc).alloc (by omega) _).grown hgrow1 (by simp; omega) (fun j hj => (R1.out.row.lt j hj).1); have R1 := Lib.hid (R1.out.app 3 hown1 hb1); clear hown1 hgrow1 hb1)
          go_meet
          exact R1
      case rest =>
        obtain ⟨v2, rfl, R2⟩ : ∃ vv, vv = _ ∧ Hid (Rq w wc vv ⟨m, k, v, u, false, p, g, i⟩ L2) := ⟨_, rfl, hcut⟩
        clear hcut R1 hz s1
        have hz := (Array.getElem?_eq_some_iff.1 R2.out.box).1
        have s2 := cell_h (k := 2) R2.out.box rfl
        go_upto_if 31 with fail
        obtain ⟨L3, hL3⟩ : ∃ L3, adL L2 (!v) 4 = L3 := ⟨_, rfl⟩
        have hl3 : L3.length ≤ L2.length + 1 := by rw [← hL3]; exact adL_len _ _ _
        go_cut [5] (fun s5 wx => Hid (Rq w wx s5 ⟨m, k, v, u, false, p, g, i⟩ L3))
        case first =>
          cases v
          · obtain rfl : L2 ++ [4] = L3 := hL3
            go_wp2_with (at_builtin; refine wpList_append_own _ rfl _ _ 30 rfl (w.heap.size + 1) 3 i0 (.int .i64 0) 1 8 Tryz.underlying30 hi0 hz0 hz1 hz2 rfl (by decide) _ (List.length L2) _ rfl (R2.out.row.alloc _) ⟨wc.heap.size, 0, none⟩ 1 1 [.int .i64 4] rfl rfl (cell_one _ _ _) (by simp [Value.oneCell']) (by unfold maxLen; omega) (by omega) (by simp; omega) ?_; intro v1 W1 hown1 hgrow1 hnil1; clear hnil1; have hb1 : Below (w.heap.size + 1) wc W1 := ((Below.refl _ wc).alloc (by omega) _).grown hgrow1 (by simp; omega) (fun j hj => (R2.out.row.lt j hj).1); have R1 := Lib.hid (R2.out.app 4 hown1 hb1); clear hown1 hgrow1 hb1)
            go_meet
            exact R1
          · obtain rfl : L2 = L3 := hL3
            go_wp2_with fail
            go_meet
            exact R2
        case rest =>
          obtain ⟨v3, rfl, R3⟩ : ∃ vv, vv = _ ∧ Hid (Rq w wc vv ⟨m, k, v, u, false, p, g, i⟩ L3) := ⟨_, rfl, hcut⟩
          clear hcut R2 hz s2
          have hz := (Array.getElem?_eq_some_iff.1 R3.out.box).1
          have s3 := cell_h (k := 3) R3.out.box rfl
          have hl3' : L3.length ≤ 3 := by omega
          have s6 := cell_h (k := 6) R3.out.box rfl
          have HN : Hid (u = true ∨ (u = false ∧ 0 < g) ∨ (u = false ∧ g = 0)) := by
            cases u
            · by_cases h : 0 < g
              · exact .inr (.inl ⟨rfl, h⟩)
              · exact .inr (.inr ⟨rfl, by omega⟩)
            · exact .inl rfl
          rcases HN.out with rfl | ⟨rfl, h5⟩ | ⟨rfl, rfl⟩
          · clear HN
            go_upto_region 17 with fail
            have R4 := R3
            clear s6 hz R3 s3
            obtain ⟨L4, hL4⟩ : ∃ L4, L3 = L4 := ⟨_, rfl⟩
            rw [hL4] at R4
            have hl4 : L4.length ≤ 4 := by rw [← hL4]; first | omega | (simp; omega)
            go_wp2_with fail
            go_loopw [5, 6] (fun vv vi wr => ∃ n : Nat, n ≤ g.toNat ∧ vi = .int .i64 (n : Int) ∧ Hid (Rq w wr vv ⟨m, k, v, true, false, p, g, i⟩ (L4 ++ List.replicate n 12))) (fun _ vi _ => g.toNat - natI vi)
            case atStart => exact ⟨0, by omega, rfl, Lib.hid (by simpa using R4.out)⟩
            case round =>
              obtain ⟨n, hn, rfl, Rn⟩ := hrel
              have hz := (Array.getElem?_eq_some_iff.1 Rn.out.box).1
              have s6 := cell_h (k := 6) Rn.out.box rfl
              obtain ⟨M, hM⟩ : ∃ M, L4 ++ List.replicate n 12 = M := ⟨_, rfl⟩
              rw [hM] at Rn
              have hlM : M.length ≤ 8 := by rw [← hM]; simp; omega
              clear R4
              by_cases hlt : n < g.toNat
              · have hlt2 : (n : Int) < g := by omega
                go_wp2_with (at_builtin; refine wpList_append_own _ rfl _ _ 30 rfl (w.heap.size + 1) 3 i0 (.int .i64 0) 1 8 Tryz.underlying30 hi0 hz0 hz1 hz2 rfl (by decide) _ (List.length M) _ rfl (Rn.out.row.alloc _) ⟨wr.heap.size, 0, none⟩ 1 1 [.int .i64 12] rfl rfl (cell_one _ _ _) (by simp [Value.oneCell']) (by unfold maxLen; omega) (by omega) (by simp; omega) ?_; intro v1 W1 hown1 hgrow1 hnil1; clear hnil1; have hb1 : Below (w.heap.size + 1) wr W1 := ((Below.refl _ wr).alloc (by omega) _).grown hgrow1 (by simp; omega) (fun j hj => (Rn.out.row.lt j hj).1); have R1 := Lib.hid (Rn.out.app 12 hown1 hb1); clear hown1 hgrow1 hb1)
                exact ⟨⟨n + 1, by omega, rfl, Lib.hid (by rw [List.replicate_succ', ← List.append_assoc, hM]; exact R1.out)⟩, by simp [natI]; omega⟩
              · have hng : (n : Int) = g := by omega
                have hnl : ¬ (n : Int) < g := by omega
                have s3 := cell_h (k := 3) Rn.out.box rfl
                go_upto_region 23 with (at_builtin; refine wpList_append_own _ rfl _ _ 30 rfl (w.heap.size + 1) 3 i0 (.int .i64 0) 1 8 Tryz.underlying30 hi0 hz0 hz1 hz2 rfl (by decide) _ (List.length M) _ rfl (Rn.out.row.alloc _) ⟨wr.heap.size, 0, none⟩ 1 1 [.int .i64 7] rfl rfl (cell_one _ _ _) (by simp [Value.oneCell']) (by unfold maxLen; omega) (by omega) (by simp; omega) ?_; intro v1 W1 hown1 hgrow1 hnil1; clear hnil1; have hb1 : Below (w.heap.size + 1) wr W1 := ((Below.refl _ wr).alloc (by omega) _).grown hgrow1 (by simp; omega) (fun j hj => (Rn.out.row.lt j hj).1); have R1 := Lib.hid (Rn.out.app 7 hown1 hb1); clear hown1 hgrow1 hb1)
                obtain ⟨M7, hM7⟩ : ∃ M7, M ++ [7] = M7 := ⟨_, rfl⟩
                rw [hM7] at R1
                have R7 := R1
                clear R1 Rn s3 s6 hz hnl
                have hl7 : M7.length ≤ 9 := by rw [← hM7]; first | omega | (simp; omega)
                have s6 := cell_h (k := 6) R7.out.box rfl
                go_wp2_with fail
                clear s6
                go_loopw [5, 7] (fun vv vi wr => ∃ q : Nat, q ≤ (p - g).toNat ∧ vi = .int .i64 (g + q) ∧ Hid (Rq w wr vv ⟨m, k, v, true, false, p, g, i⟩ (M7 ++ List.replicate q 12))) (fun _ vi _ => p.toNat - natI vi)
                case atStart => exact ⟨0, by omega, by simp, Lib.hid (by simpa using R7.out)⟩
                case round =>
                  obtain ⟨q, hq, rfl, Rq'⟩ := hrel
                  have hz := (Array.getElem?_eq_some_iff.1 Rq'.out.box).1
                  have s5 := cell_h (k := 5) Rq'.out.box rfl
                  obtain ⟨N, hN⟩ : ∃ N, M7 ++ List.replicate q 12 = N := ⟨_, rfl⟩
                  rw [hN] at Rq'
                  have hlN : N.length ≤ 20 := by rw [← hN]; simp; omega
                  clear R7
                  by_cases hlt : q < (p - g).toNat
                  · have hlt2 : g + (q : Int) < p := by omega
                    go_wp2_with (at_builtin; refine wpList_append_own _ rfl _ _ 30 rfl (w.heap.size + 1) 3 i0 (.int .i64 0) 1 8 Tryz.underlying30 hi0 hz0 hz1 hz2 rfl (by decide) _ (List.length N) _ rfl (Rq'.out.row.alloc _) ⟨wr.heap.size, 0, none⟩ 1 1 [.int .i64 12] rfl rfl (cell_one _ _ _) (by simp [Value.oneCell']) (by unfold maxLen; omega) (by omega) (by simp; omega) ?_; intro v1 W1 hown1 hgrow1 hnil1; clear hnil1; have hb1 : Below (w.heap.size + 1) wr W1 := ((Below.refl _ wr).alloc (by omega) _).grown hgrow1 (by simp; omega) (fun j hj => (Rq'.out.row.lt j hj).1); have R1 := Lib.hid (Rq'.out.app 12 hown1 hb1); clear hown1 hgrow1 hb1)
                    exact ⟨⟨q + 1, by omega, by congr 1; omega, Lib.hid (by rw [List.replicate_succ', ← List.append_assoc, hN]; exact R1.out)⟩, by simp [natI]; omega⟩
                  · have hnl : ¬ g + (q : Int) < p := by omega
                    go_wp2_with (at_builtin; refine wpList_append_own _ rfl _ _ 30 rfl (w.heap.size + 1) 3 i0 (.int .i64 0) 1 8 Tryz.underlying30 hi0 hz0 hz1 hz2 rfl (by decide) _ (List.length N) _ rfl (Rq'.out.row.alloc _) ⟨wr.heap.size, 0, none⟩ 1 1 [.int .i64 8] rfl rfl (cell_one _ _ _) (by simp [Value.oneCell']) (by unfold maxLen; omega) (by omega) (by simp; omega) ?_; intro v1 W1 hown1 hgrow1 hnil1; clear hnil1; have hb1 : Below (w.heap.size + 1) wr W1 := ((Below.refl _ wr).alloc (by omega) _).grown hgrow1 (by simp; omega) (fun j hj => (Rq'.out.row.lt j hj).1); have R1 := Lib.hid (Rq'.out.app 8 hown1 hb1); clear hown1 hgrow1 hb1)
                    have hfin : TT = N ++ [8] := by
                      have e1 : q = (p - g).toNat := by omega
                      have e2 : n = g.toNat := by omega
                      rw [← HTT.out, ← hN, ← hM7, ← hM, ← hL4, ← hL3, ← hL2, ← hL1, ← hL0, e1, e2]
                      unfold Tp.route
                      simp [adL]
                    have hrow := own_base (base' := w.heap.size) R1.out.row (by omega)
                    rw [← hfin] at hrow
                    have HRW := Lib.hid hrow
                    have HBL := Lib.hid R1.out.below
                    clear hrow R1 Rq'
                    exact bodyPost_ret (v := .tuple #[v1, .int .i64 0]) (by simp [results, Tryz.f12, go_sem]) rfl ⟨_, rfl, HRW.out, HBL.out⟩
          · clear HN
            go_upto_region 17 with (at_builtin; refine wpList_append_own _ rfl _ _ 30 rfl (w.heap.size + 1) 3 i0 (.int .i64 0) 1 8 Tryz.underlying30 hi0 hz0 hz1 hz2 rfl (by decide) _ (List.length L3) _ rfl (R3.out.row.alloc _) ⟨wc.heap.size, 0, none⟩ 1 1 [.int .i64 6] rfl rfl (cell_one _ _ _) (by simp [Value.oneCell']) (by unfold maxLen; omega) (by omega) (by simp; omega) ?_; intro v1 W1 hown1 hgrow1 hnil1; clear hnil1; have hb1 : Below (w.heap.size + 1) wc W1 := ((Below.refl _ wc).alloc (by omega) _).grown hgrow1 (by simp; omega) (fun j hj => (R3.out.row.lt j hj).1); have R1 := Lib.hid (R3.out.app 6 hown1 hb1); clear hown1 hgrow1 hb1)
            obtain ⟨W4, hW4⟩ : ∃ W4, W1 = W4 := ⟨_, rfl⟩
            rw [hW4] at R1 ⊢
            have R4 := R1
            clear R1 hW4 s6 hz R3 s3
            obtain ⟨L4, hL4⟩ : ∃ L4, L3 ++ [6] = L4 := ⟨_, rfl⟩
            rw [hL4] at R4
            have hl4 : L4.length ≤ 4 := by rw [← hL4]; first | omega | (simp; omega)
            go_wp2_with fail
            go_loopw [5, 6] (fun vv vi wr => ∃ n : Nat, n ≤ g.toNat ∧ vi = .int .i64 (n : Int) ∧ Hid (Rq w wr vv ⟨m, k, v, false, false, p, g, i⟩ (L4 ++ List.replicate n 12))) (fun _ vi _ => g.toNat - natI vi)
            case atStart => exact ⟨0, by omega, rfl, Lib.hid (by simpa using R4.out)⟩
            case round =>
              obtain ⟨n, hn, rfl, Rn⟩ := hrel
              have hz := (Array.getElem?_eq_some_iff.1 Rn.out.box).1
              have s6 := cell_h (k := 6) Rn.out.box rfl
              obtain ⟨M, hM⟩ : ∃ M, L4 ++ List.replicate n 12 = M := ⟨_, rfl⟩
              rw [hM] at Rn
              have hlM : M.length ≤ 8 := by rw [← hM]; simp; omega
              clear R4
              by_cases hlt : n < g.toNat
              · have hlt2 : (n : Int) < g := by omega
                go_wp2_with (at_builtin; refine wpList_append_own _ rfl _ _ 30 rfl (w.heap.size + 1) 3 i0 (.int .i64 0) 1 8 Tryz.underlying30 hi0 hz0 hz1 hz2 rfl (by decide) _ (List.length M) _ rfl (Rn.out.row.alloc _) ⟨wr.heap.size, 0, none⟩ 1 1 [.int .i64 12] rfl rfl (cell_one _ _ _) (by simp [Value.oneCell']) (by unfold maxLen; omega) (by omega) (by simp; omega) ?_; intro v1 W1 hown1 hgrow1 hnil1; clear hnil1; have hb1 : Below (w.heap.size + 1) wr W1 := ((Below.refl _ wr).alloc (by omega) _).grown hgrow1 (by simp; omega) (fun j hj => (Rn.out.row.lt j hj).1); have R1 := Lib.hid (Rn.out.app 12 hown1 hb1); clear hown1 hgrow1 hb1)
                exact ⟨⟨n + 1, by omega, rfl, Lib.hid (by rw [List.replicate_succ', ← List.append_assoc, hM]; exact R1.out)⟩, by simp [natI]; omega⟩
              · have hng : (n : Int) = g := by omega
                have hnl : ¬ (n : Int) < g := by omega
                have s3 := cell_h (k := 3) Rn.out.box rfl
                go_upto_region 23 with (at_builtin; refine wpList_append_own _ rfl _ _ 30 rfl (w.heap.size + 1) 3 i0 (.int .i64 0) 1 8 Tryz.underlying30 hi0 hz0 hz1 hz2 rfl (by decide) _ (List.length M) _ rfl (Rn.out.row.alloc _) ⟨wr.heap.size, 0, none⟩ 1 1 [.int .i64 7] rfl rfl (cell_one _ _ _) (by simp [Value.oneCell']) (by unfold maxLen; omega) (by omega) (by simp; omega) ?_; intro v1 W1 hown1 hgrow1 hnil1; clear hnil1; have hb1 : Below (w.heap.size + 1) wr W1 := ((Below.refl _ wr).alloc (by omega) _).grown hgrow1 (by simp; omega) (fun j hj => (Rn.out.row.lt j hj).1); have R1 := Lib.hid (Rn.out.app 7 hown1 hb1); clear hown1 hgrow1 hb1)
                obtain ⟨M7, hM7⟩ : ∃ M7, M ++ [7] = M7 := ⟨_, rfl⟩
                rw [hM7] at R1
                have R7 := R1
                clear R1 Rn s3 s6 hz hnl
                have hl7 : M7.length ≤ 9 := by rw [← hM7]; first | omega | (simp; omega)
                have s6 := cell_h (k := 6) R7.out.box rfl
                go_wp2_with fail
                clear s6
                go_loopw [5, 7] (fun vv vi wr => ∃ q : Nat, q ≤ (p - g).toNat ∧ vi = .int .i64 (g + q) ∧ Hid (Rq w wr vv ⟨m, k, v, false, false, p, g, i⟩ (M7 ++ List.replicate q 12))) (fun _ vi _ => p.toNat - natI vi)
                case atStart => exact ⟨0, by omega, by simp, Lib.hid (by simpa using R7.out)⟩
                case round =>
                  obtain ⟨q, hq, rfl, Rq'⟩ := hrel
                  have hz := (Array.getElem?_eq_some_iff.1 Rq'.out.box).1
                  have s5 := cell_h (k := 5) Rq'.out.box rfl
                  obtain ⟨N, hN⟩ : ∃ N, M7 ++ List.replicate q 12 = N := ⟨_, rfl⟩
                  rw [hN] at Rq'
                  have hlN : N.length ≤ 20 := by rw [← hN]; simp; omega
                  clear R7
                  by_cases hlt : q < (p - g).toNat
                  · have hlt2 : g + (q : Int) < p := by omega
                    go_wp2_with (at_builtin; refine wpList_append_own _ rfl _ _ 30 rfl (w.heap.size + 1) 3 i0 (.int .i64 0) 1 8 Tryz.underlying30 hi0 hz0 hz1 hz2 rfl (by decide) _ (List.length N) _ rfl (Rq'.out.row.alloc _) ⟨wr.heap.size, 0, none⟩ 1 1 [.int .i64 12] rfl rfl (cell_one _ _ _) (by simp [Value.oneCell']) (by unfold maxLen; omega) (by omega) (by simp; omega) ?_; intro v1 W1 hown1 hgrow1 hnil1; clear hnil1; have hb1 : Below (w.heap.size + 1) wr W1 := ((Below.refl _ wr).alloc (by omega) _).grown hgrow1 (by simp; omega) (fun j hj => (Rq'.out.row.lt j hj).1); have R1 := Lib.hid (Rq'.out.app 12 hown1 hb1); clear hown1 hgrow1 hb1)
                    exact ⟨⟨q + 1, by omega, by congr 1; omega, Lib.hid (by rw [List.replicate_succ', ← List.append_assoc, hN]; exact R1.out)⟩, by simp [natI]; omega⟩
                  · have hnl : ¬ g + (q : Int) < p := by omega
                    go_wp2_with (at_builtin; refine wpList_append_own _ rfl _ _ 30 rfl (w.heap.size + 1) 3 i0 (.int .i64 0) 1 8 Tryz.underlying30 hi0 hz0 hz1 hz2 rfl (by decide) _ (List.length N) _ rfl (Rq'.out.row.alloc _) ⟨wr.heap.size, 0, none⟩ 1 1 [.int .i64 8] rfl rfl (cell_one _ _ _) (by simp [Value.oneCell']) (by unfold maxLen; omega) (by omega) (by simp; omega) ?_; intro v1 W1 hown1 hgrow1 hnil1; clear hnil1; have hb1 : Below (w.heap.size + 1) wr W1 := ((Below.refl _ wr).alloc (by omega) _).grown hgrow1 (by simp; omega) (fun j hj => (Rq'.out.row.lt j hj).1); have R1 := Lib.hid (Rq'.out.app 8 hown1 hb1); clear hown1 hgrow1 hb1)
                    have hfin : TT = N ++ [8] := by
                      have e1 : q = (p - g).toNat := by omega
                      have e2 : n = g.toNat := by omega
                      rw [← HTT.out, ← hN, ← hM7, ← hM, ← hL4, ← hL3, ← hL2, ← hL1, ← hL0, e1, e2]
                      unfold Tp.route
                      simp [adL, h5]
                    have hrow := own_base (base' := w.heap.size) R1.out.row (by omega)
                    rw [← hfin] at hrow
                    have HRW := Lib.hid hrow
                    have HBL := Lib.hid R1.out.below
                    clear hrow R1 Rq'
                    exact bodyPost_ret (v := .tuple #[v1, .int .i64 0]) (by simp [results, Tryz.f12, go_sem]) rfl ⟨_, rfl, HRW.out, HBL.out⟩
          · clear HN
            go_upto_region 17 with fail
            have R4 := R3
            clear s6 hz R3 s3
            obtain ⟨L4, hL4⟩ : ∃ L4, L3 = L4 := ⟨_, rfl⟩
            rw [hL4] at R4
            have hl4 : L4.length ≤ 4 := by rw [← hL4]; first | omega | (simp; omega)
            go_wp2_with fail
            go_loopw [5, 6] (fun vv vi wr => ∃ n : Nat, n ≤ (0 : Int).toNat ∧ vi = .int .i64 (n : Int) ∧ Hid (Rq w wr vv ⟨m, k, v, false, false, p, 0, i⟩ (L4 ++ List.replicate n 12))) (fun _ vi _ => (0 : Int).toNat - natI vi)
            case atStart => exact ⟨0, by omega, rfl, Lib.hid (by simpa using R4.out)⟩
            case round =>
              obtain ⟨n, hn, rfl, Rn⟩ := hrel
              have hz := (Array.getElem?_eq_some_iff.1 Rn.out.box).1
              have s6 := cell_h (k := 6) Rn.out.box rfl
              obtain ⟨M, hM⟩ : ∃ M, L4 ++ List.replicate n 12 = M := ⟨_, rfl⟩
              rw [hM] at Rn
              have hlM : M.length ≤ 8 := by rw [← hM]; simp; omega
              clear R4
              by_cases hlt : n < (0 : Int).toNat
              · exact absurd hlt (by simp)
              · have hng : (n : Int) = (0 : Int) := by omega
                have hnl : ¬ (n : Int) < (0 : Int) := by omega
                have s3 := cell_h (k := 3) Rn.out.box rfl
                go_upto_region 23 with fail
                obtain ⟨M7, hM7⟩ : ∃ M7, M = M7 := ⟨_, rfl⟩
                rw [hM7] at Rn
                have R7 := Rn
                clear Rn s3 s6 hz hnl
                have hl7 : M7.length ≤ 9 := by rw [← hM7]; first | omega | (simp; omega)
                have s6 := cell_h (k := 6) R7.out.box rfl
                go_wp2_with fail
                clear s6
                go_loopw [5, 7] (fun vv vi wr => ∃ q : Nat, q ≤ (p - (0 : Int)).toNat ∧ vi = .int .i64 ((0 : Int) + q) ∧ Hid (Rq w wr vv ⟨m, k, v, false, false, p, 0, i⟩ (M7 ++ List.replicate q 12))) (fun _ vi _ => p.toNat - natI vi)
                case atStart => exact ⟨0, by omega, by simp, Lib.hid (by simpa using R7.out)⟩
                case round =>
                  obtain ⟨q, hq, rfl, Rq'⟩ := hrel
                  have hz := (Array.getElem?_eq_some_iff.1 Rq'.out.box).1
                  have s5 := cell_h (k := 5) Rq'.out.box rfl
                  obtain ⟨N, hN⟩ : ∃ N, M7 ++ List.replicate q 12 = N := ⟨_, rfl⟩
                  rw [hN] at Rq'
                  have hlN : N.length ≤ 20 := by rw [← hN]; simp; omega
                  clear R7
                  by_cases hlt : q < (p - (0 : Int)).toNat
                  · have hlt2 : (0 : Int) + (q : Int) < p := by omega
                    go_wp2_with (at_builtin; refine wpList_append_own _ rfl _ _ 30 rfl (w.heap.size + 1) 3 i0 (.int .i64 0) 1 8 Tryz.underlying30 hi0 hz0 hz1 hz2 rfl (by decide) _ (List.length N) _ rfl (Rq'.out.row.alloc _) ⟨wr.heap.size, 0, none⟩ 1 1 [.int .i64 12] rfl rfl (cell_one _ _ _) (by simp [Value.oneCell']) (by unfold maxLen; omega) (by omega) (by simp; omega) ?_; intro v1 W1 hown1 hgrow1 hnil1; clear hnil1; have hb1 : Below (w.heap.size + 1) wr W1 := ((Below.refl _ wr).alloc (by omega) _).grown hgrow1 (by simp; omega) (fun j hj => (Rq'.out.row.lt j hj).1); have R1 := Lib.hid (Rq'.out.app 12 hown1 hb1); clear hown1 hgrow1 hb1)
                    exact ⟨⟨q + 1, by omega, by congr 1; omega, Lib.hid (by rw [List.replicate_succ', ← List.append_assoc, hN]; exact R1.out)⟩, by simp [natI]; omega⟩
                  · have hnl : ¬ (0 : Int) + (q : Int) < p := by omega
                    go_wp2_with (at_builtin; refine wpList_append_own _ rfl _ _ 30 rfl (w.heap.size + 1) 3 i0 (.int .i64 0) 1 8 Tryz.underlying30 hi0 hz0 hz1 hz2 rfl (by decide) _ (List.length N) _ rfl (Rq'.out.row.alloc _) ⟨wr.heap.size, 0, none⟩ 1 1 [.int .i64 8] rfl rfl (cell_one _ _ _) (by simp [Value.oneCell']) (by unfold maxLen; omega) (by omega) (by simp; omega) ?_; intro v1 W1 hown1 hgrow1 hnil1; clear hnil1; have hb1 : Below (w.heap.size + 1) wr W1 := ((Below.refl _ wr).alloc (by omega) _).grown hgrow1 (by simp; omega) (fun j hj => (Rq'.out.row.lt j hj).1); have R1 := Lib.hid (Rq'.out.app 8 hown1 hb1); clear hown1 hgrow1 hb1)
                    have hfin : TT = N ++ [8] := by
                      have e1 : q = (p - (0 : Int)).toNat := by omega
                      have e2 : n = (0 : Int).toNat := by omega
                      rw [← HTT.out, ← hN, ← hM7, ← hM, ← hL4, ← hL3, ← hL2, ← hL1, ← hL0, e1, e2]
                      unfold Tp.route
                      simp [adL]
                    have hrow := own_base (base' := w.heap.size) R1.out.row (by omega)
                    rw [← hfin] at hrow
                    have HRW := Lib.hid hrow
                    have HBL := Lib.hid R1.out.below
                    clear hrow R1 Rq'
                    exact bodyPost_ret (v := .tuple #[v1, .int .i64 0]) (by simp [results, Tryz.f12, go_sem]) rfl ⟨_, rfl, HRW.out, HBL.out⟩
end Go.Proofs.YtmdniebedflpbaaGreatDoor
