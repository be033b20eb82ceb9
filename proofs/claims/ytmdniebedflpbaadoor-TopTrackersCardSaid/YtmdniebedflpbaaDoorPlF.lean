/-
  WALKS: relax.
-/
import Derived.Test.YtmdniebedflpbaaDoorPlE
namespace Go.Proofs.YtmdniebedflpbaaDoor
open Go.RowKit Go.Shelf

attribute [local go_sem] Oper.semAt_some

/-- What holds at the head of a search's round. -/
structure Top (w W : World) (bp : Nat) (q : Pt) (s : Int) (rs : List Nat) : Prop where
  hB : w.heap.size + 2 ≤ W.heap.size
  pt : PtAt W bp 72 q
  b3 : W.cell? ⟨w.heap.size, 0, none⟩ = some (.pointer (some ⟨bp, 0, none⟩))
  b7 : Boxed W (w.heap.size + 1) 3 (.int .i64 s)
  low : BelowX w.heap.size bp w W
  marks : rs.Nodup ∧ ∀ r, r ∈ rs → w.heap.size ≤ r ∧ r < W.heap.size ∧ W.heap[r]? = some (.deferred (some []))

set_option maxRecDepth 100000 in
set_option maxHeartbeats 4000000 in
theorem relax_in (w : World) (bp : Nat) (p : Pt) (f : Nat → Int) (E len c : Nat) (a : Option Addr) (B0 : Int) (hf : BOk E len f) (hp : p.Le B0) (hB0 : B0 ≤ 1000000000) (hP : PtAt w bp 72 p)
    (hS : Sl w 3 a len f) (hX : ∀ b o, 0 < len → a = some ⟨b, o, none⟩ → b ≠ bp) :
    CallsIn Fence.wide 5 Tryd.prog 40 #[.pointer (some ⟨bp, 0, none⟩), .int .i64 (E : Int), .slice a len c] w fun e W' =>
      e = .returned (.int .i64 (relS f len E p (-1)).2) ∧ PtAt W' bp 72 (relS f len E p (-1)).1 ∧ BelowX w.heap.size bp w W' := by
  refine callsIn_of_wp_marks Tryd.func40 rfl trivial ?_ rfl
  simp only [Tryd.ntmps40, List.size_toArray, List.length_cons, List.length_nil, Nat.reduceAdd, Nat.reduceSub, Array.replicate_succ, Array.replicate_zero, List.push_toArray, List.append_toArray, List.nil_append, List.cons_append]
  have HF := Lib.hid hf
  have HP := Lib.hid hp
  have HPt := Lib.hid hP
  have HS := Lib.hid hS
  have HX := Lib.hid hX
  have hl := hf.1
  clear hf hp hP hS hX
  have hbw : bp < w.heap.size := HPt.out.lt
  gi_wp2
  refine wpIn_loop_ghost_k (fun r a' W => ∃ (k : Nat) (q : Pt) (s : Int) (rs : List Nat) (u12 u13 u14 u15 u49 u50 u51 : Value),
    (k + r = E ∧ q.Le (B0 + k * 274877906944) ∧ relS f len r q s = relS f len E p (-1) ∧ Top w W bp q s rs) ∧
    a' = { tmps := #[.pointer (some ⟨bp, 0, none⟩), .int .i64 (E : Int), .slice a len c, .pointer (some ⟨w.heap.size, 0, none⟩), undef, undef, .int .i64 0, .pointer (some ⟨w.heap.size + 1, 0, none⟩), undef, undef, .int .i64 (E : Int), .int .i64 (k : Int), u12, u13, u14, u15, undef, undef, undef, undef, undef, undef, undef, undef, undef, undef, undef, undef, undef, undef, undef, undef, undef, undef, undef, undef, undef, undef, undef, undef, undef, undef, undef, undef, undef, undef, undef, undef, undef, u49, u50, u51, undef], defers := mks rs }) E ?_ ?_
  · refine ⟨0, p, -1, [], undef, undef, undef, undef, undef, undef, undef, ⟨by omega, by simpa using HP.out, rfl, ?_⟩, rfl⟩
    refine ⟨by simp, ?_, ?_, ?_, BelowX.of (((Below.refl _ w).alloc (Nat.le_refl _) _).alloc (by simp) _), by simp, fun r h => by cases h⟩
    · exact HPt.out.keep (B := w.heap.size) (((Below.refl _ w).alloc (Nat.le_refl _) _).alloc (by simp) _) hbw
    · have := (Boxed.new w 100 (.pointer (some ⟨bp, 0, none⟩))).alloc (.cells #[.int .i64 (-1)] 3)
      exact this.cell
    · have := Boxed.new (w.alloc (.cells #[.pointer (some ⟨bp, 0, none⟩)] 100)) 3 (.int .i64 (-1))
      rw [World.size_alloc] at this
      exact this
  · rintro r a' W ⟨k, q, s, rs, u12, u13, u14, u15, u49, u50, u51, ⟨hkE, hq, hR, hT⟩, rfl⟩ J K hJ hK
    have HR := Lib.hid hR
    have HQ := Lib.hid hq
    have HT := Lib.hid hT
    have HJ := Lib.hid hJ
    have HK := Lib.hid hK
    have hB := hT.hB
    have b3 := hT.b3
    have c7 := hT.b7.cell
    have f7 := hT.b7.frozen
    clear hR hq hT hJ hK
    have hF104 : Fence.wide.fn 54 := trivial
    by_cases hlt : k < E
    · obtain ⟨r, rfl⟩ : ∃ j, r = j + 1 := ⟨r - 1, by omega⟩
      gi_wp2_with (gi_at_call 54; refine (callsIn_wide.2 (shorter_of _ _ _ _ _)).mono ?_; rintro e w' ⟨rfl, rfl⟩)
      -- the world ahead of the loop over the function
      obtain ⟨W1, hW1⟩ : ∃ W1, W.setCell ⟨w.heap.size + 1, 0, none⟩ (.int .i64 (-1)) = W1 := ⟨_, rfl⟩
      have hs1 : W1.heap.size = W.heap.size := by rw [← hW1]; simp [World.setCell]
      have T1 : Top w W1 bp q (-1) rs := by
        rw [← hW1]
        have hk : ∀ b, b ≠ w.heap.size + 1 → (W.setCell ⟨w.heap.size + 1, 0, none⟩ (.int .i64 (-1))).heap[b]? = W.heap[b]? := fun b hb => Below.heap_setCell W ⟨w.heap.size + 1, 0, none⟩ _ b hb
        have hT := HT.out
        refine ⟨by simp [World.setCell]; omega, (hk _ (by omega)).trans hT.pt, (World.cell?_of_block (a := ⟨w.heap.size, 0, none⟩) (hk _ (by show w.heap.size ≠ _; omega))).trans hT.b3, hT.b7.set _, hT.low.trans ⟨rfl, rfl, rfl, by simp [World.setCell], fun k hk2 _ => hk _ (by omega)⟩, hT.marks.1, fun r hr => ?_⟩
        obtain ⟨g1, g2, g3⟩ := hT.marks.2 r hr
        refine ⟨g1, by simpa [World.setCell] using g2, (hk _ (fun e => ?_)).trans g3⟩
        subst e
        rw [show W.heap[w.heap.size + 1]? = _ from hT.b7] at g3
        cases g3
      rw [hW1]
      clear hW1 HT c7 f7 b3 hB
      have HT1 := Lib.hid T1
      obtain ⟨S, hS⟩ : ∃ S, W.heap.size = S := ⟨_, rfl⟩
      obtain ⟨W4, hW4⟩ : ∃ W4, (W1.alloc (.cells #[.pointer (some ⟨bp, 0, none⟩)] 100)).alloc (.cells #[.slice a len c] 34) = W4 := ⟨_, rfl⟩
      have M4 : Mid w W4 S bp q f a len c rs [] ∧ w.heap.size + 2 ≤ S ∧ W4.heap.size = S + 2 := by
        have hb : Below S W1 W4 := by rw [← hW4, ← hS, ← hs1]; exact ((Below.refl _ W1).alloc (Nat.le_refl _) _).alloc (by simp) _
        have hB := T1.hB
        refine ⟨⟨by rw [← hW4, ← hS, ← hs1]; simp, T1.pt.keep hb (by omega), (hb.cell (p := ⟨w.heap.size, 0, none⟩) (by show w.heap.size < S; omega)).trans T1.b3, (hb.block _ (by omega)).trans T1.b7, ?_, ?_, T1.low.trans (BelowX.of (hb.mono (by omega))), T1.marks.1, fun r hr => ?_⟩, by omega, by rw [← hW4, ← hS, ← hs1]; simp⟩
        · have := (Boxed.new W1 100 (.pointer (some ⟨bp, 0, none⟩))).alloc (.cells #[.slice a len c] 34)
          rw [hW4, hs1, hS] at this
          exact this.cell
        · have := Boxed.new (W1.alloc (.cells #[.pointer (some ⟨bp, 0, none⟩)] 100)) 34 (.slice a len c)
          rw [hW4, World.size_alloc, hs1, hS] at this
          exact this.cell
        · obtain ⟨g1, g2, g3⟩ := T1.marks.2 r hr
          exact ⟨g1, by omega, (hb.block _ (by omega)).trans g3⟩
      obtain ⟨M4, hS2, hz4⟩ := M4
      rw [hW4, hS]
      clear hW4 T1 HT1 hs1
      have HM4 := Lib.hid M4
      have HZ4 := Lib.hid hz4
      clear M4 hz4 hS
      refine rangeFunc_seen rfl (by decide) (gf := 65) (lb := #[.pointer (some ⟨S + 1, 0, none⟩), .pointer (some ⟨S, 0, none⟩)]) rfl trivial (enters_of Tryd.func65 (by kernel_rfl) rfl)
        (encs := fun x : Nat => #[Value.int .i64 (x : Int), bdV f x]) (fun _ => rfl) (fun pre W' => Mid w W' S bp q f a len c rs pre)
        (fun pre x => x < len ∧ (q.ups f pre).sh f x = true ∧ (q.ups f pre).Le 1000300000000000) (fun xs => xs = ysOf f q len) ?own HM4.out
        (fun x a' W' => ∃ Bx, S + 2 ≤ Bx ∧ W'.heap[Bx]? = some (.cells #[.int .i64 (f (x * 3)), .int .i64 (f (x * 3 + 1)), .int .i64 (f (x * 3 + 2))] 62 (0, 0)) ∧
          a' = { tmps := #[.pointer (some ⟨bp, 0, none⟩), .int .i64 (E : Int), .slice a len c, .pointer (some ⟨w.heap.size, 0, none⟩), undef, undef, .int .i64 0, .pointer (some ⟨w.heap.size + 1, 0, none⟩), .int .i64 (x : Int), .pointer (some ⟨Bx, 0, none⟩), .int .i64 (E : Int), .int .i64 (k : Int), .bool true, .pointer (some ⟨bp, 0, none⟩), .slice a len c, (.func (.func 65) #[] #[.pointer (some ⟨S + 1, 0, none⟩), .pointer (some ⟨S, 0, none⟩)]), .int .i64 (x : Int), bdV f x, undef, undef, undef, undef, undef, undef, undef, undef, undef, undef, undef, undef, undef, undef, undef, undef, undef, undef, undef, undef, undef, undef, undef, undef, undef, undef, undef, undef, undef, undef, undef, u49, u50, u51, undef], defers := [] })
        (fun x a' _ X Y row hs hg hr => by
          obtain ⟨Bx, h1, h2, h3⟩ := hs
          exact ⟨Bx, h1, (grownBy_keeps_cells hg (fun r e => (hr r e).2) h2 rfl).trans h2, h3⟩)
        ?sq ?assign ?body ?done
      case own =>
        rw [HZ4.out]
        exact ownFrom_low (fun s W' h => h.hB) (fun s W' W'' h hb => h.keep hb hS2 hbw)
      case sq =>
        intro l J W' hb hJI hJa hY h0
        refine shorter1_of 4 l bp S (S + 1) q f E len c a (B0 + k * 274877906944) HF.out HQ.out (by omega) J W' (fun pre W2 h => ?_) hJa (fun pre x W2 h hg => hY pre x W2 h hg) h0
        have hM := hJI pre W2 h
        exact ⟨hM.pt, hM.bb, hM.bl, hM.low.sl (by decide) HS.out (Nat.le_refl _) HX.out⟩
      case assign =>
        rintro l pre x W' K5 hI hG hK5
        have HI := Lib.hid hI
        have HK5 := Lib.hid hK5
        clear hI hK5
        dsimp only [bdV]
        gi_wp2
        have hI := HI.out
        refine HK5.out _ _ ((KeepsOthers.alloc _ _).from _) (hI.keep ((Below.refl _ _).alloc hI.hB _) hS2 hbw) ⟨W'.heap.size, hI.hB, World.alloc_heap_new W' _, rfl⟩
      case body =>
        rintro l pre x a' W' hl2 hI ⟨hx, hsh, hle⟩ ⟨Bx, hBx, hbx, rfl⟩
        obtain ⟨e0, l0⟩ := bF_eq HF.out hx
        obtain ⟨e1, l1⟩ := bT_eq HF.out hx
        have hbd := (HF.out.2 x hx).2.2
        have hmF := hle (bF f x)
        have HI := Lib.hid hI
        have HL := Lib.hid hle
        have HSh := Lib.hid hsh
        have hM : bM f x = f (x * 3 + 2) := rfl
        have hup : q.ups f (pre ++ [x]) = (q.ups f pre).up f x := Pt.ups_snoc f q pre x
        have hlast : lastTo f (pre ++ [x]) = (bT f x : Int) := lastTo_snoc f pre x
        have hu : (q.ups f pre).up f x = ⟨turn (q.ups f pre).kn (bT f x) true, turn (q.ups f pre).mo (bT f x) ((q.ups f pre).mo (bF f x) + bM f x), turn (q.ups f pre).la (bT f x) (x : Int)⟩ := rfl
        have HU := Lib.hid (hup.trans hu)
        have HLa := Lib.hid hlast
        rw [← hM] at hbd hbx
        rw [e0, e1] at hbx
        have hbdV : bdV f x = .agg #[.int .i64 (f (x * 3)), .int .i64 (f (x * 3 + 1)), .int .i64 (f (x * 3 + 2))] := rfl
        rw [hbdV]
        clear hI hle hsh e0 e1 hup hlast hu hbdV hM
        have hw : IntKind.i64.wrap ((q.ups f pre).mo (bF f x) + bM f x) = (q.ups f pre).mo (bF f x) + bM f x := IntWalk.i64_in _ (by omega)
        have hpt : PtAt W' bp 72 (q.ups f pre) := HI.out.pt
        have cmo := hpt.mo (k := bF f x) (by omega)
        have HPT := Lib.hid hpt
        have hS0 : Two W' w.heap.size bp Bx (bF f x) (bT f x) (bM f x) := ⟨HI.out.b3, by simp [World.cell?, hbx], by simp [World.cell?, hbx], by simp [World.cell?, hbx]⟩
        have hF1 : ∀ g, (Fence.wide.inRound l).fn g := fun _ => trivial
        generalize (q.ups f pre).mo (bF f x) = mf at *
        clear hpt
        gi_wp2
        refine wpIn_region_I (fun W2 => Two W2 w.heap.size bp Bx (bF f x) (bT f x) (bM f x)) (by kernel_rfl) ?_
        change anyI _ _ _ _ _ _ _ 32 (Array.replicate 32 false) _ _
        replace hS0 : Two W'.drew w.heap.size bp Bx (bF f x) (bT f x) (bM f x) := ⟨hS0.b3, hS0.c0, hS0.c1, hS0.c2⟩
        replace cmo : W'.drew.cell? ⟨bp, 64 + bF f x, none⟩ = some (.int .i64 mf) := cmo
        have hF64 : (bF f x : Int) < 64 := by omega
        have hT64 : (bT f x : Int) < 64 := by omega
        refine anyI_takeD hF1 0 18 (v := ?_) rfl rfl (by kernel_rfl) (by kernel_rfl) (by kernel_rfl) (by kernel_rfl) (fun _ _ _ h => h) hS0 rfl ?_ ?_
        rotate_left
        · intro W2 hSw; obtain ⟨s3, s0, s1, s2⟩ := hSw; go_simp; try with_reducible rfl
        simp only [List.setIfInBounds_toArray, List.set_cons_zero, List.set_cons_succ]
        refine anyI_takeD hF1 1 19 (v := ?_) rfl rfl (by kernel_rfl) (by kernel_rfl) (by kernel_rfl) (by kernel_rfl) (fun _ _ _ h => h) hS0 rfl ?_ ?_
        rotate_left
        · intro W2 hSw; obtain ⟨s3, s0, s1, s2⟩ := hSw; go_simp; try with_reducible rfl
        simp only [List.setIfInBounds_toArray, List.set_cons_zero, List.set_cons_succ]
        refine anyI_takeD hF1 2 20 (v := ?_) rfl rfl (by kernel_rfl) (by kernel_rfl) (by kernel_rfl) (by kernel_rfl) (fun _ _ _ h => h) hS0 rfl ?_ ?_
        rotate_left
        · intro W2 hSw; obtain ⟨s3, s0, s1, s2⟩ := hSw; go_simp; try with_reducible rfl
        simp only [List.setIfInBounds_toArray, List.set_cons_zero, List.set_cons_succ]
        refine anyI_takeD hF1 3 21 (v := ?_) rfl rfl (by kernel_rfl) (by kernel_rfl) (by kernel_rfl) (by kernel_rfl) (fun _ _ _ h => h) hS0 rfl ?_ ?_
        rotate_left
        · intro W2 hSw; obtain ⟨s3, s0, s1, s2⟩ := hSw; go_simp; try with_reducible rfl
        simp only [List.setIfInBounds_toArray, List.set_cons_zero, List.set_cons_succ]
        refine anyI_takeD hF1 4 22 (v := ?_) rfl rfl (by kernel_rfl) (by kernel_rfl) (by kernel_rfl) (by kernel_rfl) (fun _ _ _ h => h) hS0 rfl ?_ ?_
        rotate_left
        · intro W2 hSw; obtain ⟨s3, s0, s1, s2⟩ := hSw; go_simp; try with_reducible rfl
        simp only [List.setIfInBounds_toArray, List.set_cons_zero, List.set_cons_succ]
        refine anyI_takeD hF1 5 23 (v := ?_) rfl rfl (by kernel_rfl) (by kernel_rfl) (by kernel_rfl) (by kernel_rfl) (fun _ _ _ h => h) hS0 rfl ?_ ?_
        rotate_left
        · intro W2 hSw; obtain ⟨s3, s0, s1, s2⟩ := hSw; go_simp; try with_reducible rfl
        simp only [List.setIfInBounds_toArray, List.set_cons_zero, List.set_cons_succ]
        refine anyI_takeD hF1 6 24 (v := ?_) rfl rfl (by kernel_rfl) (by kernel_rfl) (by kernel_rfl) (by kernel_rfl) (fun _ _ _ h => h) hS0 rfl ?_ ?_
        rotate_left
        · intro W2 hSw; obtain ⟨s3, s0, s1, s2⟩ := hSw; go_simp; try with_reducible rfl
        simp only [List.setIfInBounds_toArray, List.set_cons_zero, List.set_cons_succ]
        refine anyI_takeD hF1 7 25 (v := ?_) rfl rfl (by kernel_rfl) (by kernel_rfl) (by kernel_rfl) (by kernel_rfl) (fun _ _ _ h => h) hS0 rfl ?_ ?_
        rotate_left
        · intro W2 hSw; obtain ⟨s3, s0, s1, s2⟩ := hSw; go_simp; try with_reducible rfl
        simp only [List.setIfInBounds_toArray, List.set_cons_zero, List.set_cons_succ]
        refine anyI_takeD hF1 8 26 (v := ?_) rfl rfl (by kernel_rfl) (by kernel_rfl) (by kernel_rfl) (by kernel_rfl) (fun _ _ _ h => h) hS0 rfl ?_ ?_
        rotate_left
        · intro W2 hSw; obtain ⟨s3, s0, s1, s2⟩ := hSw; go_simp; try with_reducible rfl
        simp only [List.setIfInBounds_toArray, List.set_cons_zero, List.set_cons_succ]
        refine anyI_takeD hF1 9 27 (v := ?_) rfl rfl (by kernel_rfl) (by kernel_rfl) (by kernel_rfl) (by kernel_rfl) (fun _ _ _ h => h) hS0 rfl ?_ ?_
        rotate_left
        · intro W2 hSw; obtain ⟨s3, s0, s1, s2⟩ := hSw; go_simp; try with_reducible rfl
        simp only [List.setIfInBounds_toArray, List.set_cons_zero, List.set_cons_succ]
        refine anyI_takeD hF1 10 28 (v := ?_) rfl rfl (by kernel_rfl) (by kernel_rfl) (by kernel_rfl) (by kernel_rfl) (fun _ _ _ h => h) hS0 rfl ?_ ?_
        rotate_left
        · intro W2 hSw; obtain ⟨s3, s0, s1, s2⟩ := hSw; go_simp; try with_reducible rfl
        simp only [List.setIfInBounds_toArray, List.set_cons_zero, List.set_cons_succ]
        refine anyI_takeD hF1 11 29 (v := ?_) rfl rfl (by kernel_rfl) (by kernel_rfl) (by kernel_rfl) (by kernel_rfl) (fun _ _ _ h => h) hS0 rfl ?_ ?_
        rotate_left
        · intro W2 hSw; obtain ⟨s3, s0, s1, s2⟩ := hSw; go_simp; try with_reducible rfl
        simp only [List.setIfInBounds_toArray, List.set_cons_zero, List.set_cons_succ]
        refine anyI_takeD hF1 12 30 (v := ?_) rfl rfl (by kernel_rfl) (by kernel_rfl) (by kernel_rfl) (by kernel_rfl) (fun _ _ _ h => h) hS0 rfl ?_ ?_
        rotate_left
        · intro W2 hSw; obtain ⟨s3, s0, s1, s2⟩ := hSw; go_simp; try with_reducible rfl
        simp only [List.setIfInBounds_toArray, List.set_cons_zero, List.set_cons_succ]
        refine anyI_takeD hF1 13 31 (v := ?_) rfl rfl (by kernel_rfl) (by kernel_rfl) (by kernel_rfl) (by kernel_rfl) (fun _ _ _ h => h) hS0 rfl ?_ ?_
        rotate_left
        · intro W2 hSw; obtain ⟨s3, s0, s1, s2⟩ := hSw; go_simp; try with_reducible rfl
        simp only [List.setIfInBounds_toArray, List.set_cons_zero, List.set_cons_succ]
        refine anyI_takeD hF1 14 32 (v := ?_) rfl rfl (by kernel_rfl) (by kernel_rfl) (by kernel_rfl) (by kernel_rfl) (fun _ _ _ h => h) hS0 rfl ?_ ?_
        rotate_left
        · intro W2 hSw; obtain ⟨s3, s0, s1, s2⟩ := hSw; go_simp; try with_reducible rfl
        simp only [List.setIfInBounds_toArray, List.set_cons_zero, List.set_cons_succ]
        refine anyI_takeD hF1 16 34 (v := ?_) rfl rfl (by kernel_rfl) (by kernel_rfl) (by kernel_rfl) (by kernel_rfl) (fun _ _ _ h => h) hS0 rfl ?_ ?_
        rotate_left
        · intro W2 hSw; obtain ⟨s3, s0, s1, s2⟩ := hSw; go_simp; try with_reducible rfl
        simp only [List.setIfInBounds_toArray, List.set_cons_zero, List.set_cons_succ]
        refine anyI_takeD hF1 17 35 (v := ?_) rfl rfl (by kernel_rfl) (by kernel_rfl) (by kernel_rfl) (by kernel_rfl) (fun _ _ _ h => h) hS0 rfl ?_ ?_
        rotate_left
        · intro W2 hSw; obtain ⟨s3, s0, s1, s2⟩ := hSw; go_simp; try with_reducible rfl
        simp only [List.setIfInBounds_toArray, List.set_cons_zero, List.set_cons_succ]
        refine anyI_takeD hF1 19 37 (v := ?_) rfl rfl (by kernel_rfl) (by kernel_rfl) (by kernel_rfl) (by kernel_rfl) (fun _ _ _ h => h) hS0 rfl ?_ ?_
        rotate_left
        · intro W2 hSw; obtain ⟨s3, s0, s1, s2⟩ := hSw; go_simp; try with_reducible rfl
        simp only [List.setIfInBounds_toArray, List.set_cons_zero, List.set_cons_succ]
        refine anyI_takeD hF1 20 38 (v := ?_) rfl rfl (by kernel_rfl) (by kernel_rfl) (by kernel_rfl) (by kernel_rfl) (fun _ _ _ h => h) hS0 rfl ?_ ?_
        rotate_left
        · intro W2 hSw; obtain ⟨s3, s0, s1, s2⟩ := hSw; go_simp; try with_reducible rfl
        simp only [List.setIfInBounds_toArray, List.set_cons_zero, List.set_cons_succ]
        refine anyI_takeD hF1 21 39 (v := ?_) rfl rfl (by kernel_rfl) (by kernel_rfl) (by kernel_rfl) (by kernel_rfl) (fun _ _ _ h => h) hS0 rfl ?_ ?_
        rotate_left
        · intro W2 hSw; obtain ⟨s3, s0, s1, s2⟩ := hSw; go_simp; try with_reducible rfl
        simp only [List.setIfInBounds_toArray, List.set_cons_zero, List.set_cons_succ]
        refine anyI_takeD hF1 24 41 (v := ?_) rfl rfl (by kernel_rfl) (by kernel_rfl) (by kernel_rfl) (by kernel_rfl) (fun _ _ _ h => h) hS0 rfl ?_ ?_
        rotate_left
        · intro W2 hSw; obtain ⟨s3, s0, s1, s2⟩ := hSw; go_simp; try with_reducible rfl
        simp only [List.setIfInBounds_toArray, List.set_cons_zero, List.set_cons_succ]
        refine anyI_takeD hF1 25 42 (v := ?_) rfl rfl (by kernel_rfl) (by kernel_rfl) (by kernel_rfl) (by kernel_rfl) (fun _ _ _ h => h) hS0 rfl ?_ ?_
        rotate_left
        · intro W2 hSw; obtain ⟨s3, s0, s1, s2⟩ := hSw; go_simp; try with_reducible rfl
        simp only [List.setIfInBounds_toArray, List.set_cons_zero, List.set_cons_succ]
        refine anyI_takeD hF1 28 44 (v := ?_) rfl rfl (by kernel_rfl) (by kernel_rfl) (by kernel_rfl) (by kernel_rfl) (fun _ _ _ h => h) hS0 rfl ?_ ?_
        rotate_left
        · intro W2 hSw; obtain ⟨s3, s0, s1, s2⟩ := hSw; go_simp; try with_reducible rfl
        simp only [List.setIfInBounds_toArray, List.set_cons_zero, List.set_cons_succ]
        refine anyI_takeD hF1 29 45 (v := ?_) rfl rfl (by kernel_rfl) (by kernel_rfl) (by kernel_rfl) (by kernel_rfl) (fun _ _ _ h => h) hS0 rfl ?_ ?_
        rotate_left
        · intro W2 hSw; obtain ⟨s3, s0, s1, s2⟩ := hSw; go_simp; try with_reducible rfl
        simp only [List.setIfInBounds_toArray, List.set_cons_zero, List.set_cons_succ]
        refine anyI_valueD hF1 15 33 (v := ?_) (w2 := W'.drew) rfl rfl (by kernel_rfl) (by kernel_rfl) rfl ?_ hS0 ?_
        rotate_left
        · go_simp; try with_reducible rfl
        simp only [List.setIfInBounds_toArray, List.set_cons_zero, List.set_cons_succ]
        refine anyI_takeD hF1 18 36 (v := ?_) rfl rfl (by kernel_rfl) (by kernel_rfl) (by kernel_rfl) (by kernel_rfl) (fun _ _ _ h => h) hS0 rfl ?_ ?_
        rotate_left
        · intro W2 hSw; obtain ⟨s3, s0, s1, s2⟩ := hSw; go_simp; try with_reducible rfl
        simp only [List.setIfInBounds_toArray, List.set_cons_zero, List.set_cons_succ]
        refine anyI_takeD hF1 22 40 (v := ?_) rfl rfl (by kernel_rfl) (by kernel_rfl) (by kernel_rfl) (by kernel_rfl) (fun _ _ _ h => h) hS0 rfl ?_ ?_
        rotate_left
        · intro W2 hSw; obtain ⟨s3, s0, s1, s2⟩ := hSw; go_simp; try with_reducible rfl
        simp only [List.setIfInBounds_toArray, List.set_cons_zero, List.set_cons_succ]
        obtain ⟨Wd, hWd⟩ : ∃ Wd, W'.drew = Wd := ⟨_, rfl⟩
        have P0 : PtAt Wd bp 72 (q.ups f pre) := by rw [← hWd]; exact HPT.out
        have hkd : ∀ k : Nat, Wd.heap[k]? = W'.heap[k]? := fun k => by rw [← hWd]; rfl
        have hod : Wd.os = W'.os ∧ Wd.tape = W'.tape ∧ Wd.output = W'.output ∧ Wd.heap.size = W'.heap.size := by rw [← hWd]; exact ⟨rfl, rfl, rfl, rfl⟩
        rw [hWd] at hS0 ⊢
        have S0 := hS0
        clear hWd hS0 cmo
        obtain ⟨W1, hW1⟩ : ∃ W1, W1 = Wd.setCell ⟨bp, bT f x, none⟩ (.bool true) := ⟨_, rfl⟩
        have P1 := P0.set_kn (k := bT f x) (by omega) true
        have S1 := S0.set (by omega) (by omega) (bT f x) (.bool true)
        have X1 : ∀ B, BelowX B bp Wd W1 := fun B => by rw [hW1]; exact BelowX.set B bp _ _ _
        rw [← hW1] at P1 S1
        have HW1 := Lib.hid hW1
        clear hW1
        refine anyI_skipN hF1 23 (w2 := W1) rfl rfl (by kernel_rfl) (by kernel_rfl) rfl ?_ S1 ?_
        · have ho := P0.kn (k := bT f x) (by omega)
          have hz := P0.fz (bT f x)
          rw [HW1.out]
          go_simp
        refine anyI_takeD hF1 26 43 (v := ?_) rfl rfl (by kernel_rfl) (by kernel_rfl) (by kernel_rfl) (by kernel_rfl) (fun _ _ _ h => h) S1 rfl ?_ ?_
        rotate_left
        · intro W2 hSw; obtain ⟨s3, s0, s1, s2⟩ := hSw; go_simp; try with_reducible rfl
        simp only [List.setIfInBounds_toArray, List.set_cons_zero, List.set_cons_succ]
        obtain ⟨W2, hW2⟩ : ∃ W2, W2 = W1.setCell ⟨bp, 64 + bT f x, none⟩ (.int .i64 (mf + bM f x)) := ⟨_, rfl⟩
        have P2 := P1.set_mo (k := bT f x) (by omega) (mf + bM f x)
        have S2 := S1.set (by omega) (by omega) (64 + bT f x) (.int .i64 (mf + bM f x))
        have X2 : ∀ B, BelowX B bp W1 W2 := fun B => by rw [hW2]; exact BelowX.set B bp _ _ _
        rw [← hW2] at P2 S2
        have HW2 := Lib.hid hW2
        clear hW2
        refine anyI_skipN hF1 27 (w2 := W2) rfl rfl (by kernel_rfl) (by kernel_rfl) rfl ?_ S2 ?_
        · have ho := P1.mo (k := bT f x) (by omega)
          have hz := P1.fz (64 + bT f x)
          rw [HW2.out]
          go_simp
        refine anyI_takeD hF1 30 46 (v := ?_) rfl rfl (by kernel_rfl) (by kernel_rfl) (by kernel_rfl) (by kernel_rfl) (fun _ _ _ h => h) S2 rfl ?_ ?_
        rotate_left
        · intro W2 hSw; obtain ⟨s3, s0, s1, s2⟩ := hSw; go_simp; try with_reducible rfl
        simp only [List.setIfInBounds_toArray, List.set_cons_zero, List.set_cons_succ]
        obtain ⟨W3, hW3⟩ : ∃ W3, W3 = W2.setCell ⟨bp, 128 + bT f x, none⟩ (.int .i64 (x : Int)) := ⟨_, rfl⟩
        have P3 := P2.set_la (k := bT f x) (by omega) (x : Int)
        have S3 := S2.set (by omega) (by omega) (128 + bT f x) (.int .i64 (x : Int))
        have X3 : ∀ B, BelowX B bp W2 W3 := fun B => by rw [hW3]; exact BelowX.set B bp _ _ _
        rw [← hW3] at P3 S3
        have HW3 := Lib.hid hW3
        clear hW3
        refine anyI_skipN hF1 31 (w2 := W3) rfl rfl (by kernel_rfl) (by kernel_rfl) rfl ?_ S3 ?_
        · have ho := P2.la (k := bT f x) (by omega)
          have hz := P2.fz (128 + bT f x)
          rw [HW3.out]
          go_simp
        refine anyI_done (by kernel_rfl) ?_ _
        have hX : ∀ B, BelowX B bp W' W3 := fun B => (BelowX.trans ⟨hod.1, hod.2.1, hod.2.2.1, Nat.le_of_eq hod.2.2.2.symm, fun k _ _ => hkd k⟩ (X1 B)).trans ((X2 B).trans (X3 B))
        have b73 : Boxed W3 (w.heap.size + 1) 3 (.int .i64 (lastTo f pre)) := ((hX (w.heap.size + 2)).block _ (by omega) (by omega)).trans HI.out.b7
        have c7 := b73.cell
        have f7 := b73.frozen
        have cx1 := S3.c1
        have HP3 := Lib.hid P3
        have HX3 := Lib.hid hX
        have HB3 := Lib.hid b73
        have HS3 := Lib.hid S3
        clear P0 P1 P2 P3 X1 X2 X3 S0 S1 S2 S3 hX hkd hod b73 HW1 HW2 HW3
        gi_wp2
        have hi := HI.out
        have hz := HZ4.out
        have hX := HX3.out
        rw [← HLa.out]
        have hk : ∀ j : Nat, j ≠ bp → j ≠ w.heap.size + 1 → (W3.setCell ⟨w.heap.size + 1, 0, none⟩ (.int .i64 (lastTo f (pre ++ [x])))).heap[j]? = W'.heap[j]? := fun j h1 h2 =>
          (Below.heap_setCell W3 ⟨w.heap.size + 1, 0, none⟩ _ j h2).trans ((hX (j + 1)).block j (by omega) h1)
        have hsz : W'.heap.size ≤ (W3.setCell ⟨w.heap.size + 1, 0, none⟩ (.int .i64 (lastTo f (pre ++ [x])))).heap.size := by simp [World.setCell]; exact (hX 0).size
        have hB7 := HB3.out.set (.int .i64 (lastTo f (pre ++ [x])))
        have hPt : PtAt (W3.setCell ⟨w.heap.size + 1, 0, none⟩ (.int .i64 (lastTo f (pre ++ [x])))) bp 72 (q.ups f (pre ++ [x])) := by
          rw [HU.out]; exact (Below.heap_setCell W3 ⟨w.heap.size + 1, 0, none⟩ _ bp (by show bp ≠ w.heap.size + 1; omega)).trans HP3.out
        have hlo : BelowX w.heap.size bp W' (W3.setCell ⟨w.heap.size + 1, 0, none⟩ (.int .i64 (lastTo f (pre ++ [x])))) := ⟨(hX 0).os, (hX 0).tape, (hX 0).output, hsz, fun j h1 h2 => hk j h2 (by omega)⟩
        generalize W3.setCell ⟨w.heap.size + 1, 0, none⟩ (.int .i64 (lastTo f (pre ++ [x]))) = W5 at *
        refine ⟨⟨hsz, fun j o hj ho _ => (hk j (by omega) (by omega)).trans ho⟩, ⟨Nat.le_trans hi.hB hsz, hPt, ?_, hB7, ?_, ?_, hi.low.trans hlo, hi.marks.1, fun r hr => ?_⟩⟩
        · exact (World.cell?_of_block (a := ⟨w.heap.size, 0, none⟩) (hk _ (by show w.heap.size ≠ bp; omega) (by show w.heap.size ≠ w.heap.size + 1; omega))).trans hi.b3
        · exact (World.cell?_of_block (a := ⟨S, 0, none⟩) (hk _ (by show S ≠ bp; omega) (by show S ≠ w.heap.size + 1; omega))).trans hi.bb
        · exact (World.cell?_of_block (a := ⟨S + 1, 0, none⟩) (hk _ (by show S + 1 ≠ bp; omega) (by show S + 1 ≠ w.heap.size + 1; omega))).trans hi.bl
        · obtain ⟨g1, g2, g3⟩ := hi.marks.2 r hr
          refine ⟨g1, g2, (hk _ (by omega) (fun e => ?_)).trans g3⟩
          subst e
          rw [show W'.heap[w.heap.size + 1]? = _ from hi.b7] at g3
          cases g3
      case done =>
        rintro D xs W' hD rfl hI hKD
        have hz := HZ4.out
        have hDs : D < W'.heap.size := (Array.getElem?_eq_some_iff.1 hKD).1
        have hT2 : Top w W' bp (q.ups f (ysOf f q len)) (lastTo f (ysOf f q len)) (D :: rs) := by
          refine ⟨by have := hI.hB; omega, hI.pt, hI.b3, hI.b7, hI.low, ?_, ?_⟩
          · refine List.nodup_cons.2 ⟨fun h => ?_, hI.marks.1⟩
            have := (hI.marks.2 D h).2.1
            omega
          · intro r hr
            rcases List.mem_cons.1 hr with rfl | hr
            · exact ⟨by omega, hDs, hKD⟩
            · obtain ⟨g1, g2, g3⟩ := hI.marks.2 r hr
              exact ⟨g1, by have := hI.hB; omega, g3⟩
        have hR1 : relS f len (r + 1) q s = if lastTo f (ysOf f q len) < 0 then (q.ups f (ysOf f q len), lastTo f (ysOf f q len)) else relS f len r (q.ups f (ysOf f q len)) (lastTo f (ysOf f q len)) := rfl
        have hle := ysOf_le HF.out HQ.out len (Nat.le_refl _)
        have HT2 := Lib.hid hT2
        have HR2 := Lib.hid (hR1.symm.trans HR.out)
        have HL2 := Lib.hid hle
        have c7 := hI.b7.cell
        clear hT2 hR1 hle hI
        generalize lastTo f (ysOf f q len) = s' at *
        generalize q.ups f (ysOf f q len) = q' at *
        by_cases hs : s' < 0
        · gi_wp2
          have hT := HT2.out
          have hR := HR2.out
          rw [if_pos hs] at hR
          refine leaves_mks (B := w.heap.size) (D :: rs) W' hT.marks (fun w' hb => ⟨_, results_tmp rfl _ _ _, ?_⟩)
          refine ⟨?_, ?_, hT.low.trans (BelowX.of hb)⟩
          · rw [← hR]; rfl
          · rw [← hR]; exact hT.pt.keep hb hbw
        · gi_wp2
          have hR := HR2.out
          rw [if_neg (by omega)] at hR
          refine HK.out _ _ (Handed.intro r (by omega) (HJ.out _ _ _ ?_))
          have hk1 : ((k + 1 : Nat) : Int) = (k : Int) + 1 := by push_cast; rfl
          refine ⟨k + 1, q', s', D :: rs, ?_⟩
          rw [hk1]
          (repeat apply Exists.intro)
          exact ⟨⟨by omega, HL2.out.mono (by omega), hR, HT2.out⟩, rfl⟩
    · obtain rfl : r = 0 := by omega
      gi_wp2
      have hT := HT.out
      have hR := HR.out
      refine leaves_mks (B := w.heap.size) rs W hT.marks (fun w' hb => ⟨_, results_tmp rfl _ _ _, ?_⟩)
      refine ⟨?_, ?_, hT.low.trans (BelowX.of hb)⟩
      · rw [← hR]; rfl
      · rw [← hR]; exact hT.pt.keep hb hbw

/-- relax: the rounds' paths, and the last event whose path was shortened. -/
theorem relax_of (w : World) (bp : Nat) (p : Pt) (f : Nat → Int) (E len c : Nat) (a : Option Addr) (hf : BOk E len f) (hp : p.Le 0) (hP : PtAt w bp 72 p)
    (hS : Sl w 3 a len f) (hX : ∀ b o, 0 < len → a = some ⟨b, o, none⟩ → b ≠ bp) :
    Calls Tryd.prog 40 #[.pointer (some ⟨bp, 0, none⟩), .int .i64 (E : Int), .slice a len c] w fun e W' =>
      e = .returned (.int .i64 (relS f len E p (-1)).2) ∧ PtAt W' bp 72 (relS f len E p (-1)).1 ∧ BelowX w.heap.size bp w W' :=
  (callsIn_wide (n := 5)).1 (relax_in w bp p f E len c a 0 hf hp (by decide) hP hS hX)
end Go.Proofs.YtmdniebedflpbaaDoor
