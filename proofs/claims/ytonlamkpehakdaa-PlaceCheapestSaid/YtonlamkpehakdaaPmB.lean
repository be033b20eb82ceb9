/-
  WALKS: the function that goes through the steps with which an alignment can end.
-/
import Derived.Test.YtonlamkpehakdaaPmA
namespace Go.Proofs.Ytonlamkpehakdaa
open Go.RowKit Go.Shelf

attribute [local go_sem] Oper.semAt_some

section
variable {F : Fence} {n : Nat} {P : Program} {ops : Array Oper} {Q : Exit → Act → World → Prop} {md : Region.Mode} {S : World → Prop}
/-- A call within a region, where it alone may come up. -/
theorem anyI_call (hF : ∀ f, F.fn f) (hn : F.depth.isSome = true → 1 ≤ n) (i d : Nat) {o : Oper} {fuel : Nat} {listed : Array Bool} {a : Act} {w : World} {f : FuncId} {args : Array Value} {R : Ending → World → Prop} (hi : ops[i]? = some o) (hdst : o.dst = some d) (hd : noDefer ops = true) (hr : Region.ready md ops listed = [i])
    (hw : Region.wanted o (yielded ops a.tmps) = true) (hv : (execOp a.eval o).run P w = .ok (.enter f args) w) (hc : CallsIn F (n - 1) P f args w R)
    (h : ∀ e w', R e w' → ∃ v, e = .returned v ∧ S w' ∧ anyI F n P md ops Q S fuel (listed.setIfInBounds i true) { tmps := a.tmps.setIfInBounds d v, defers := a.defers } w') : anyI F n P md ops Q S (fuel + 1) listed a w := by
  refine anyI_one i hr ?_
  unfold wpOpIn
  simp only [hi, hw, if_true, Oper.wpIn, Oper.semAt_eq _ _ _ (fun c => noDefer_spec hd i o c hi), hv, Oper.uponIn]
  refine ⟨fun f _ => hF f, hn, hc.mono ?_⟩
  intro e w' he
  obtain ⟨v, rfl, hS, hA⟩ := h e w' he
  exact ⟨hS, by rw [put_some hdst]; exact hA⟩
/-- A round within a region, where it alone may come up. -/
theorem anyI_round (hF : ∀ f, F.fn f) (hn : F.depth.isSome = true → 1 ≤ n) (i d : Nat) {o : Oper} {fuel : Nat} {listed : Array Bool} {a : Act} {w : World} {l : Nat} {R : Ending → World → Prop} (hi : ops[i]? = some o) (hdst : o.dst = some d) (hd : noDefer ops = true) (hr : Region.ready md ops listed = [i])
    (hw : Region.wanted o (yielded ops a.tmps) = true) {fn : FuncId} {tmps : Array Value} {assign body : Code} (hv : (execOp a.eval o).run P w = .ok (.round l fn tmps assign body) w) (hc : RoundIn F (n - 1) P l fn tmps assign body w R)
    (h : ∀ e w', R e w' → ∃ v, e = .returned v ∧ S w' ∧ anyI F n P md ops Q S fuel (listed.setIfInBounds i true) { tmps := a.tmps.setIfInBounds d v, defers := a.defers } w') : anyI F n P md ops Q S (fuel + 1) listed a w := by
  refine anyI_one i hr ?_
  unfold wpOpIn
  simp only [hi, hw, if_true, Oper.wpIn, Oper.semAt_eq _ _ _ (fun c => noDefer_spec hd i o c hi), hv, Oper.uponIn]
  refine ⟨fun f _ => hF f, hn, hc.mono ?_⟩
  intro e w' he
  obtain ⟨v, rfl, hS, hA⟩ := h e w' he
  exact ⟨hS, by rw [put_some hdst]; exact hA⟩
end

/-- What a function that goes through steps comes to. -/
def StepsEnd (J : List Stp → World → Prop) (ys : List Stp) (e : Ending) (W : World) : Prop := (∃ v, e = .returned v) ∧ ∃ xs, xs = ys ∧ J xs W

set_option maxRecDepth 100000 in
set_option maxHeartbeats 4000000 in
theorem steps_in (n l ib kb cb db wb hb : Nat) (wa ha : Option Addr) (nw wc nh hc : Nat) (g h : Nat → Int) (L F M : Int) (i k : Nat)
    (J : List Stp → World → Prop) (W : World)
    (hJI : ∀ pre W1, J pre W1 → StAt W1 ib kb cb db wb hb wa ha nw wc nh hc g h L F M i k)
    (hJa : AbidesFrom W.heap.size J)
    (hY : ∀ pre x W1, J pre W1 → x ∈ stp L F M g h i k → YieldAt Fence.wide (n - 1) Try.prog l #[stV x] W1 fun e W' => e = .returned (.bool true) ∧ J (pre ++ [x]) W')
    (h0 : J [] W) :
    CallsIn Fence.wide n Try.prog 95 #[.func (.yield l) #[] #[], .pointer (some ⟨ib, 0, none⟩), .pointer (some ⟨kb, 0, none⟩), .pointer (some ⟨cb, 0, none⟩), .pointer (some ⟨db, 0, none⟩)] W (StepsEnd J (stp L F M g h i k)) := by
  refine callsIn_of_wp Try.func95 rfl trivial ?_ rfl
  simp only [Try.ntmps95, List.size_toArray, List.length_cons, List.length_nil, Nat.reduceAdd, Nat.reduceSub, Array.replicate_succ, Array.replicate_zero, List.push_toArray, List.append_toArray, List.nil_append, List.cons_append]
  have HJI := Lib.hid hJI
  have HY := Lib.hid hY
  have HJa := Lib.hid hJa
  have hst : stp L F M g h i k = stp1 L i k ++ stp2 F i k ++ stp3 M g h i k := rfl
  have hS := hJI _ _ h0
  have hi40 := hS.ds.l1
  have hk40 := hS.ds.l2
  have hin := hS.hi
  have hkn := hS.hk
  have hF1 : ∀ f, Fence.wide.fn f := fun _ => trivial
  clear hJI hY hJa
  rcases i with _ | i
  · have ci := hS.ci
    have ck := hS.ck
    rcases k with _ | k
    · have hj : stp L F M g h 0 0 = [] := by rw [hst]; simp [stp1, stp2, stp3]
      have HT := Lib.hid hj
      clear hst hS hj
      gi_wp2
      refine wpIn_wide.2 ?_
      go_quiet (fail)
      gi_wp2
      go_end0
      exact ⟨⟨_, rfl⟩, _, HT.out.symm, HJa.out _ W _ none h0 (grew_drewN W nq) (fun r e => by cases e)⟩
    · have hk1 : ((k + 1 : Nat) : Int) = (k : Int) + 1 := by push_cast; rfl
      rw [hk1] at ck
      have c1 := hS.c1
      have hj : stp L F M g h 0 (k + 1) = [(0, k, F)] := by rw [hst]; simp [stp1, stp2, stp3]
      obtain ⟨fn, tmps, assign, body, hy, hR⟩ := HY.out [] (0, k, F) W h0 (by rw [hj]; simp)
      dsimp only [stV] at hy
      rw [show ((0 : Nat) : Int) = 0 from rfl] at hy
      have HT := Lib.hid hj
      have hwk : IntKind.i64.wrap (k : Int) = (k : Int) := IntWalk.i64_in _ (by omega)
      clear hst hS hj
      gi_wp2
      refine ⟨fun h => absurd h (by decide), hR.mono ?_⟩
      clear hy hR ci ck c1
      rintro e W3 ⟨rfl, hJ3⟩
      have hS3 := HJI.out _ _ hJ3
      have ci3 := hS3.ci
      have ck3 := hS3.ck
      rw [hk1] at ck3
      clear hS3
      gi_wp2
      refine wpIn_wide.2 ?_
      go_quiet (fail)
      gi_wp2
      go_end0
      exact ⟨⟨_, rfl⟩, _, HT.out.symm, HJa.out _ W3 _ none hJ3 (grew_drewN W3 nq) (fun r e => by cases e)⟩
  · have hi1 : ((i + 1 : Nat) : Int) = (i : Int) + 1 := by push_cast; rfl
    have ci := hS.ci
    have ck := hS.ck
    have c0 := hS.c0
    rw [hi1] at ci
    rcases k with _ | k
    · have hj : stp L F M g h (i + 1) 0 = [(i, 0, L)] := by rw [hst]; simp [stp1, stp2, stp3]
      obtain ⟨fn, tmps, assign, body, hy, hR⟩ := HY.out [] (i, 0, L) W h0 (by rw [hj]; simp)
      dsimp only [stV] at hy
      rw [show ((0 : Nat) : Int) = 0 from rfl] at hy
      have HT := Lib.hid hj
      have hwi : IntKind.i64.wrap (i : Int) = (i : Int) := IntWalk.i64_in _ (by omega)
      clear hst hS hj
      gi_wp2
      refine ⟨fun h => absurd h (by decide), hR.mono ?_⟩
      clear hy hR ci ck c0
      rintro e W3 ⟨rfl, hJ3⟩
      have hS3 := HJI.out _ _ hJ3
      have ci3 := hS3.ci
      have ck3 := hS3.ck
      rw [hi1] at ci3
      clear hS3
      gi_wp2
      refine wpIn_wide.2 ?_
      go_quiet (fail)
      gi_wp2
      go_end0
      exact ⟨⟨_, rfl⟩, _, HT.out.symm, HJa.out _ W3 _ none hJ3 (grew_drewN W3 nq) (fun r e => by cases e)⟩
    · have hk1 : ((k + 1 : Nat) : Int) = (k : Int) + 1 := by push_cast; rfl
      rw [hk1] at ck
      obtain ⟨fn, tmps, assign, body, hy, hR⟩ := HY.out [] (i, k + 1, L) W h0 (by rw [hst]; simp [stp1])
      dsimp only [stV] at hy
      rw [hk1] at hy
      clear hS
      have HT := Lib.hid hst
      clear hst
      gi_wp2
      refine ⟨fun h => absurd h (by decide), hR.mono ?_⟩
      clear hy hR ci ck c0
      rintro e W3 ⟨rfl, hJ3⟩
      have hS3 := HJI.out _ _ hJ3
      have ci3 := hS3.ci
      have ck3 := hS3.ck
      have c03 := hS3.c0
      have c13 := hS3.c1
      have c23 := hS3.c2
      have cd3 := hS3.cd
      have hds3 := hS3.ds
      clear hS3
      rw [hi1] at ci3
      rw [hk1] at ck3
      obtain ⟨fn2, tmps2, assign2, body2, hy, hR⟩ := HY.out _ (i + 1, k, F) W3 hJ3 (by rw [HT.out]; simp [stp2])
      dsimp only [stV] at hy
      rw [hi1] at hy
      gi_wp2
      refine ⟨fun h => absurd h (by decide), hR.mono ?_⟩
      clear hy hR ci3 ck3 c03 c13 c23 cd3 hJ3 hds3
      rintro e W4 ⟨rfl, hJ3⟩
      have hS3 := HJI.out _ _ hJ3
      have ci3 := hS3.ci
      have ck3 := hS3.ck
      have c03 := hS3.c0
      have c13 := hS3.c1
      have c23 := hS3.c2
      have cd3 := hS3.cd
      have hds3 := hS3.ds
      clear hS3
      rw [hi1] at ci3
      rw [hk1] at ck3
      gi_wp2
      by_cases hd : dst g h i k ≤ M
      · have hdd : decide (dst g h i k ≤ M) = true := by simpa using hd
        refine wpIn_wide.2 ?_
        go_quiet ((go_at_call 87; exact Calls.quiet_of (dst_of _ wb hb wa ha nw wc nh hc g h (ds_drewN hds3 _) i k (by omega) (by omega))))
        have hJq : ∀ q, J ([] ++ [(i, k + 1, L)] ++ [(i + 1, k, F)]) (W4.drewN q) := fun q => HJa.out _ W4 _ none hJ3 (grew_drewN W4 q) (fun r e => by cases e)
        have hds := (HJI.out _ _ hJ3).ds
        have hst3 : stp3 M g h (i + 1) (k + 1) = [(i, k, dst g h i k)] := by unfold stp3; rw [if_pos ⟨by omega, by omega, by simpa using hd⟩]; simp
        have HD := Lib.hid hd
        have hwi : IntKind.i64.wrap (i : Int) = (i : Int) := IntWalk.i64_in _ (by omega)
        have hwk : IntKind.i64.wrap (k : Int) = (k : Int) := IntWalk.i64_in _ (by omega)
        clear hd
        gi_wp2
        refine wpIn_region_I (fun W2 => W2.cell? ⟨ib, 0, none⟩ = some (.int .i64 ((i : Int) + 1)) ∧ W2.cell? ⟨kb, 0, none⟩ = some (.int .i64 ((k : Int) + 1)) ∧ W2.cell? ⟨db, 0, none⟩ = some (.func (.func 87) #[] #[.pointer (some ⟨wb, 0, none⟩), .pointer (some ⟨hb, 0, none⟩)])) (by kernel_rfl) ?_
        change anyI _ _ _ _ _ _ _ 13 (Array.replicate 13 false) _ _
        have hS0 : ((W4.drewN nq).drew).cell? ⟨ib, 0, none⟩ = some (.int .i64 ((i : Int) + 1)) ∧ ((W4.drewN nq).drew).cell? ⟨kb, 0, none⟩ = some (.int .i64 ((k : Int) + 1)) ∧ ((W4.drewN nq).drew).cell? ⟨db, 0, none⟩ = some (.func (.func 87) #[] #[.pointer (some ⟨wb, 0, none⟩), .pointer (some ⟨hb, 0, none⟩)]) := ⟨ci3, ck3, cd3⟩
        refine anyI_takeD hF1 0 49 (v := ?_) rfl rfl (by kernel_rfl) (by kernel_rfl) (by kernel_rfl) (by kernel_rfl) (fun _ _ _ h => h) hS0 rfl ?_ ?_
        rotate_left
        · intro W2 hSw; obtain ⟨s1, s2, s3⟩ := hSw; go_simp; try with_reducible rfl
        simp only [List.setIfInBounds_toArray, List.set_cons_zero, List.set_cons_succ]
        refine anyI_takeD hF1 1 50 (v := ?_) rfl rfl (by kernel_rfl) (by kernel_rfl) (by kernel_rfl) (by kernel_rfl) (fun _ _ _ h => h) hS0 rfl ?_ ?_
        rotate_left
        · intro W2 hSw; obtain ⟨s1, s2, s3⟩ := hSw; go_simp; try with_reducible rfl
        simp only [List.setIfInBounds_toArray, List.set_cons_zero, List.set_cons_succ]
        refine anyI_takeD hF1 2 51 (v := ?_) rfl rfl (by kernel_rfl) (by kernel_rfl) (by kernel_rfl) (by kernel_rfl) (fun _ _ _ h => h) hS0 rfl ?_ ?_
        rotate_left
        · intro W2 hSw; obtain ⟨s1, s2, s3⟩ := hSw; go_simp; try with_reducible rfl
        simp only [List.setIfInBounds_toArray, List.set_cons_zero, List.set_cons_succ]
        refine anyI_takeD hF1 3 52 (v := ?_) rfl rfl (by kernel_rfl) (by kernel_rfl) (by kernel_rfl) (by kernel_rfl) (fun _ _ _ h => h) hS0 rfl ?_ ?_
        rotate_left
        · intro W2 hSw; obtain ⟨s1, s2, s3⟩ := hSw; go_simp; try with_reducible rfl
        simp only [List.setIfInBounds_toArray, List.set_cons_zero, List.set_cons_succ]
        refine anyI_takeD hF1 4 53 (v := ?_) rfl rfl (by kernel_rfl) (by kernel_rfl) (by kernel_rfl) (by kernel_rfl) (fun _ _ _ h => h) hS0 rfl ?_ ?_
        rotate_left
        · intro W2 hSw; obtain ⟨s1, s2, s3⟩ := hSw; go_simp; try with_reducible rfl
        simp only [List.setIfInBounds_toArray, List.set_cons_zero, List.set_cons_succ]
        refine anyI_takeD hF1 5 54 (v := ?_) rfl rfl (by kernel_rfl) (by kernel_rfl) (by kernel_rfl) (by kernel_rfl) (fun _ _ _ h => h) hS0 rfl ?_ ?_
        rotate_left
        · intro W2 hSw; obtain ⟨s1, s2, s3⟩ := hSw; go_simp; try with_reducible rfl
        simp only [List.setIfInBounds_toArray, List.set_cons_zero, List.set_cons_succ]
        refine anyI_takeD hF1 6 55 (v := ?_) rfl rfl (by kernel_rfl) (by kernel_rfl) (by kernel_rfl) (by kernel_rfl) (fun _ _ _ h => h) hS0 rfl ?_ ?_
        rotate_left
        · intro W2 hSw; obtain ⟨s1, s2, s3⟩ := hSw; go_simp; try with_reducible rfl
        simp only [List.setIfInBounds_toArray, List.set_cons_zero, List.set_cons_succ]
        refine anyI_takeD hF1 7 56 (v := ?_) rfl rfl (by kernel_rfl) (by kernel_rfl) (by kernel_rfl) (by kernel_rfl) (fun _ _ _ h => h) hS0 rfl ?_ ?_
        rotate_left
        · intro W2 hSw; obtain ⟨s1, s2, s3⟩ := hSw; go_simp; try with_reducible rfl
        simp only [List.setIfInBounds_toArray, List.set_cons_zero, List.set_cons_succ]
        refine anyI_takeD hF1 8 57 (v := ?_) rfl rfl (by kernel_rfl) (by kernel_rfl) (by kernel_rfl) (by kernel_rfl) (fun _ _ _ h => h) hS0 rfl ?_ ?_
        rotate_left
        · intro W2 hSw; obtain ⟨s1, s2, s3⟩ := hSw; go_simp; try with_reducible rfl
        simp only [List.setIfInBounds_toArray, List.set_cons_zero, List.set_cons_succ]
        refine anyI_takeD hF1 9 58 (v := ?_) rfl rfl (by kernel_rfl) (by kernel_rfl) (by kernel_rfl) (by kernel_rfl) (fun _ _ _ h => h) hS0 rfl ?_ ?_
        rotate_left
        · intro W2 hSw; obtain ⟨s1, s2, s3⟩ := hSw; go_simp; try with_reducible rfl
        simp only [List.setIfInBounds_toArray, List.set_cons_zero, List.set_cons_succ]
        obtain ⟨Wd, hWd⟩ : ∃ Wd, (W4.drewN nq).drew = Wd := ⟨_, rfl⟩
        have hJd : J ([] ++ [(i, k + 1, L)] ++ [(i + 1, k, F)]) Wd := by rw [← hWd]; exact HJa.out _ (W4.drewN nq) _ none (hJq nq) ⟨rfl, rfl, rfl, Nat.le_refl _, fun _ _ _ => rfl⟩ (fun r e => by cases e)
        rw [hWd] at hS0 ⊢
        clear hWd hJq hJ3
        refine anyI_call hF1 (fun h => absurd h (by decide)) 10 59 (w := Wd) rfl rfl (by kernel_rfl) (by kernel_rfl) (by rfl) (by go_simp; try with_reducible rfl) (callsIn_wide.2 (dst_of Wd wb hb wa ha nw wc nh hc g h (HJI.out _ _ hJd).ds i k (by omega) (by omega))) ?_
        rintro e w5 ⟨rfl, q5, rfl⟩
        have hJ5 := HJa.out _ Wd _ none hJd (grew_drewN Wd q5) (fun r e => by cases e)
        refine ⟨_, rfl, hS0, ?_⟩
        replace hS0 : (Wd.drewN q5).cell? ⟨ib, 0, none⟩ = some (.int .i64 ((i : Int) + 1)) ∧ (Wd.drewN q5).cell? ⟨kb, 0, none⟩ = some (.int .i64 ((k : Int) + 1)) ∧ (Wd.drewN q5).cell? ⟨db, 0, none⟩ = some (.func (.func 87) #[] #[.pointer (some ⟨wb, 0, none⟩), .pointer (some ⟨hb, 0, none⟩)]) := hS0
        generalize Wd.drewN q5 = W5 at hJ5 hS0 ⊢
        simp only [List.setIfInBounds_toArray, List.set_cons_zero, List.set_cons_succ]
        refine anyI_takeD hF1 11 60 (v := ?_) rfl rfl (by kernel_rfl) (by kernel_rfl) (by kernel_rfl) (by kernel_rfl) (fun _ _ _ h => h) hS0 rfl ?_ ?_
        rotate_left
        · intro W2 hSw; obtain ⟨s1, s2, s3⟩ := hSw; go_simp; try with_reducible rfl
        simp only [List.setIfInBounds_toArray, List.set_cons_zero, List.set_cons_succ]

        obtain ⟨fn3, tmps3, assign3, body3, hy, hR⟩ := HY.out _ (i, k, dst g h i k) W5 hJ5 (by rw [HT.out, hst3]; simp)
        dsimp only [stV] at hy
        refine anyI_round hF1 (fun h => absurd h (by decide)) 12 61 (w := W5) rfl rfl (by kernel_rfl) (by kernel_rfl) (by rfl) (by go_simp; try with_reducible rfl) hR ?_
        rintro e W6 ⟨rfl, hJ6⟩
        have hS6 := HJI.out _ _ hJ6
        refine ⟨_, rfl, ⟨by rw [← hi1]; exact hS6.ci, by rw [← hk1]; exact hS6.ck, hS6.cd⟩, ?_⟩
        refine anyI_done (by kernel_rfl) ?_ _
        clear hy hR
        gi_wp2
        go_end0
        exact ⟨⟨_, rfl⟩, _, by rw [HT.out, hst3]; simp [stp1, stp2], hJ6⟩
      · have hdd : decide (dst g h i k ≤ M) = false := by simpa using hd
        have hst3 : stp3 M g h (i + 1) (k + 1) = [] := by unfold stp3; rw [if_neg (by rintro ⟨_, _, h3⟩; exact hd (by simpa using h3))]
        have hJq : ∀ q, J _ (W4.drewN q) := fun q => HJa.out _ W4 _ none hJ3 (grew_drewN W4 q) (fun r e => by cases e)
        have HD := Lib.hid hd
        clear hd
        refine wpIn_wide.2 ?_
        go_quiet ((go_at_call 87; exact Calls.quiet_of (dst_of _ wb hb wa ha nw wc nh hc g h (ds_drewN hds3 _) i k (by omega) (by omega))))
        gi_wp2
        go_end0
        exact ⟨⟨_, rfl⟩, _, by rw [HT.out, hst3]; simp [stp1, stp2], hJq nq⟩
end Go.Proofs.Ytonlamkpehakdaa
