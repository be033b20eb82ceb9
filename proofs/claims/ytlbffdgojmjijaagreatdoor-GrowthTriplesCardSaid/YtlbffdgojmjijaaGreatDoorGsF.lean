/-
  WALKS: growth: Chain of the program.
-/
import Derived.Test.YtlbffdgojmjijaaGreatDoorGsE
namespace Go.Proofs.YtlbffdgojmjijaaGreatDoor
open Go.RowKit

theorem x_int3 : (Tryz.prog.info? 54).map (fun i => (i.zero, i.size, i.bytes)) = some (some (.agg #[.int .i64 0, .int .i64 0, .int .i64 0]), 3, 24) := by kernel_rfl
abbrev Tri : Type := Int × Int × Int
/-- The triples of one pair with the first k pairs of the second list; of the first i pairs with all. -/
def tri (f g : Nat → Int) (i : Nat) : Nat → List Tri
  | 0 => []
  | k + 1 => tri f g i k ++ if g (k * 2) = f (i * 2 + 1) then [(f (i * 2), f (i * 2 + 1), g (k * 2 + 1))] else []
def tris (f g : Nat → Int) (m : Nat) : Nat → List Tri
  | 0 => []
  | i + 1 => tris f g m i ++ tri f g i m
theorem tri_len (f g : Nat → Int) (i : Nat) : ∀ k, (tri f g i k).length ≤ k
  | 0 => Nat.le_refl _
  | k + 1 => by
    have := tri_len f g i k
    simp only [tri, List.length_append]
    split <;> simp <;> omega
theorem tris_len (f g : Nat → Int) (m : Nat) (hm : m ≤ 24) : ∀ i, (tris f g m i).length ≤ 24 * i
  | 0 => Nat.le_refl _
  | i + 1 => by
    have := tris_len f g m hm i
    have := tri_len f g i m
    simp only [tris, List.length_append]
    omega
def tints (l : List Tri) : List Int := l.flatMap fun t => [t.1, t.2.1, t.2.2]
def tcells (l : List Tri) : List Value := (tints l).map fun x => .int .i64 x
def tf (l : List Tri) (i : Nat) : Int := (tints l).getD i 0
theorem tints_len : ∀ l, (tints l).length = l.length * 3
  | [] => rfl
  | t :: l => by
    have := tints_len l
    unfold tints at this ⊢
    rw [List.flatMap_cons, List.length_append, this, List.length_cons]
    simp; omega
theorem tcells_app (l k : List Tri) : tcells (l ++ k) = tcells l ++ tcells k := by unfold tcells tints; rw [List.flatMap_append, List.map_append]
theorem tcells_one (a b c : Int) : tcells [(a, b, c)] = [.int .i64 a, .int .i64 b, .int .i64 c] := rfl
theorem own_Sl3 {W : World} {B : Nat} {e : TypeId} {v : Value} {l : List Tri} (h : W.ownsRow B e 3 v l.length (tcells l)) : ∃ x c, v = .slice x l.length c ∧ Sl W 3 x l.length (tf l) := by
  obtain ⟨n, hn⟩ : ∃ n, l.length = n := ⟨_, rfl⟩
  rw [hn] at h ⊢
  cases n with
  | zero =>
    rcases h.2 with ⟨rfl, _⟩ | ⟨g, cap, cur, rfl, _⟩
    · exact ⟨none, 0, rfl, fun h => absurd h (by decide)⟩
    · exact ⟨some ⟨g, 0, none⟩, cap, rfl, fun h => absurd h (by decide)⟩
  | succ m =>
    obtain ⟨g, cap, rfl⟩ := ownsRow_succ h
    refine ⟨some ⟨g, 0, none⟩, cap, rfl, fun _ => ⟨g, 0, rfl, fun i hi => ?_⟩⟩
    have hl : i < (tints l).length := by rw [tints_len, hn]; exact hi
    rw [Nat.zero_add, World.ownsRow.cellAt h i hi]
    unfold tcells tf
    rw [List.getElem?_map, List.getElem?_eq_getElem hl, List.getD, List.getElem?_eq_getElem hl]
    rfl
theorem cells_tri (W : World) (a b c : Value) (t : TypeId) : ∀ (j : Nat) (u : Value), [a, b, c][j]? = some u → (W.alloc (.cells #[a, b, c] t)).cell? ((⟨W.heap.size, 0, none⟩ : Addr).add j) = some u := by
  intro j u h
  have hh := World.alloc_heap_new W (.cells #[a, b, c] t)
  match j, h with
  | 0, h => rw [show (⟨W.heap.size, 0, none⟩ : Addr).add 0 = ⟨W.heap.size, 0, none⟩ by simp [Addr.add], cell_h hh rfl]; simpa using h
  | 1, h => rw [show (⟨W.heap.size, 0, none⟩ : Addr).add 1 = ⟨W.heap.size, 1, none⟩ by simp [Addr.add], cell_h hh rfl]; simpa using h
  | 2, h => rw [show (⟨W.heap.size, 0, none⟩ : Addr).add 2 = ⟨W.heap.size, 2, none⟩ by simp [Addr.add], cell_h hh rfl]; simpa using h

/-- The error of Chain; the triples that it tells. -/
def chE (f g : Nat → Int) (n m : Nat) : Int := if n ≤ 24 ∧ m ≤ 24 then if first (pErr 24 24 f) n = 0 then first (pErr 24 24 g) m else first (pErr 24 24 f) n else 4
def chT (f g : Nat → Int) (n m : Nat) : List Tri := if chE f g n m = 0 then tris f g m n else []
def ChEnd (w : World) (f g : Nat → Int) (n m : Nat) (e : Ending) (w' : World) : Prop :=
  ∃ x c, e = .returned (.tuple #[.slice x (chT f g n m).length c, .int .i64 (chE f g n m)]) ∧ Sl w' 3 x (chT f g n m).length (tf (chT f g n m)) ∧ Below w.heap.size w w'
theorem chEnd_bad {w w' : World} {f g : Nat → Int} {n m : Nat} {E : Int} (hE : chE f g n m = E) (h0 : E ≠ 0) (hB : Below w.heap.size w w') : ChEnd w f g n m (.returned (.tuple #[.slice none 0 0, .int .i64 E])) w' := by
  have e1 : chT f g n m = [] := by unfold chT; rw [if_neg (by rw [hE]; exact h0)]
  refine ⟨none, 0, ?_, ?_, hB⟩
  · rw [e1, hE]; rfl
  · rw [e1]; intro h; exact absurd h (by decide)

/-- A box is no row of another type; it stays through an append. -/
theorem box_row {W : World} {B : Nat} {cs : Array Value} {t e : TypeId} {p : Nat × Nat} {base size k : Nat} {v : Value} {xs : List Value} (hte : t ≠ e) (h : W.heap[B]? = some (.cells cs t p)) (hr : W.ownsRow base e size v k xs) : some B ≠ v.ownBlock := by
  intro e'
  rcases hr.2 with ⟨rfl, _⟩ | ⟨g, cap, cur, rfl, h1, h2, h3⟩
  · simp [Value.ownBlock] at e'
  · obtain rfl : B = g := by simpa [Value.ownBlock] using e'
    rw [h] at h2
    simp only [Option.some.injEq, Obj.cells.injEq] at h2
    exact hte h2.2.1
theorem box_al {W : World} {B : Nat} {o : Obj} (h : W.heap[B]? = some o) (t : Obj) : (W.alloc t).heap[B]? = some o :=
  ((Below.refl W.heap.size W).alloc (Nat.le_refl _) t).block B (Array.getElem?_eq_some_iff.1 h).1 |>.trans h
theorem box_grow {W W' : World} {B : Nat} {cs : Array Value} {t e : TypeId} {p : Nat × Nat} {base size k : Nat} {v : Value} {xs : List Value} (hte : t ≠ e) (h : W.heap[B]? = some (.cells cs t p)) (hr : W.ownsRow base e size v k xs) (hg : W.grownBy W' v.ownBlock) : W'.heap[B]? = some (.cells cs t p) :=
  (hg.block B (Array.getElem?_eq_some_iff.1 h).1 (box_row hte h hr)).trans h

set_option maxRecDepth 100000 in
set_option maxHeartbeats 8000000 in
theorem gChain_of (w : World) (a b : Option Addr) (n m ca cb : Nat) (f g : Nat → Int) (hn : n ≤ 40) (hm : m ≤ 40) (hF : Sl w 2 a n f) (hG : Sl w 2 b m g) :
    Calls Tryz.prog 22 #[.slice a n ca, .slice b m cb] w (ChEnd w f g n m) := by
  have HF := Lib.hid hF
  have HG := Lib.hid hG
  clear hF hG
  by_cases hsz : n ≤ 24 ∧ m ≤ 24
  rotate_left
  · have HE : Hid (chE f g n m = 4) := by unfold chE; rw [if_neg hsz]; exact Lib.hid rfl
    rcases (by omega : 24 < n ∨ (n ≤ 24 ∧ 24 < m)) with h | ⟨h1, h2⟩
    all_goals
      go_enter Tryz.func22, Tryz.ntmps22
      go_wp2_with fail
      exact bodyPost_ret (v := .tuple #[.slice none 0 0, .int .i64 4]) (by simp [results, Tryz.f22, go_sem]) rfl (chEnd_bad HE.out (by decide) (Below.refl _ _))
  obtain ⟨h1, h2⟩ := hsz
  have HE : Hid (chE f g n m = if first (pErr 24 24 f) n = 0 then first (pErr 24 24 g) m else first (pErr 24 24 f) n) := by unfold chE; rw [if_pos ⟨h1, h2⟩]; exact Lib.hid rfl
  have ix0 : ∀ w, (Instr.index 97 (.agg #[.slice a n ca, .slice b m cb]) (.int .i64 0)).run Tryz.prog w = .ok (.slice a n ca) w := fun _ => by kernel_rfl
  have ix1 : ∀ w, (Instr.index 97 (.agg #[.slice a n ca, .slice b m cb]) (.int .i64 1)).run Tryz.prog w = .ok (.slice b m cb) w := fun _ => by kernel_rfl
  go_enter Tryz.func22, Tryz.ntmps22
  go_wp2_with fail
  go_loopw [25] (fun vi wr => ∃ j : Nat, j ≤ 2 ∧ vi = .int .i64 (j : Int) ∧ Hid (1 ≤ j → first (pErr 24 24 f) n = 0) ∧ Hid (2 ≤ j → first (pErr 24 24 g) m = 0) ∧ Hid (Below w.heap.size w wr)) (fun vi _ => 2 - (intOf vi).toNat)
  case atStart => exact ⟨0, by omega, rfl, fun h => by omega, fun h => by omega, Below.refl _ _⟩
  case round =>
    obtain ⟨j, hj, rfl, H1, H2, HB⟩ := hrel
    rcases (by omega : j = 0 ∨ j = 1 ∨ j = 2) with rfl | rfl | rfl
    · rw [show (((0 : Nat) : Int)) = 0 from rfl]
      have hS := HF.out.keep (by decide) HB.out
      go_wp2_with fail
      refine (gcheckPairs_of wr a n ca f 24 24 (by decide) (by decide) (by unfold maxLen; omega) hS).mono ?_
      rintro e W1 ⟨rfl, hb⟩
      have HB1 := Lib.hid (low_trans HB.out hb)
      clear hb hS
      obtain ⟨E, hE⟩ : ∃ E, first (pErr 24 24 f) n = E := ⟨_, rfl⟩
      rw [hE]
      by_cases h0 : E = 0
      · subst h0
        have H0 := Lib.hid hE
        clear hE
        go_wp2_with fail
        exact ⟨⟨1, by omega, rfl, fun _ => H0.out, fun h => by omega, HB1.out⟩, by simp [intOf]⟩
      · have HE1 : Hid (chE f g n m = E) := by rw [HE.out, hE, if_neg h0]; exact Lib.hid rfl
        clear hE
        go_wp2_with fail
        (try simp only [Exit.inBlock, Exit.then])
        exact bodyPost_ret (v := .tuple #[.slice none 0 0, .int .i64 E]) (by simp [results, Tryz.f22, go_sem]) rfl (chEnd_bad HE1.out h0 HB1.out)
    · rw [show (((1 : Nat) : Int)) = 1 from rfl]
      have hS := HG.out.keep (by decide) HB.out
      go_wp2_with fail
      refine (gcheckPairs_of wr b m cb g 24 24 (by decide) (by decide) (by unfold maxLen; omega) hS).mono ?_
      rintro e W1 ⟨rfl, hb⟩
      have HB1 := Lib.hid (low_trans HB.out hb)
      clear hb hS
      obtain ⟨E, hE⟩ : ∃ E, first (pErr 24 24 g) m = E := ⟨_, rfl⟩
      rw [hE]
      by_cases h0 : E = 0
      · subst h0
        have H0 := Lib.hid hE
        clear hE
        go_wp2_with fail
        exact ⟨⟨2, by omega, rfl, fun _ => H1.out (by omega), fun _ => H0.out, HB1.out⟩, by simp [intOf]⟩
      · have HE1 : Hid (chE f g n m = E) := by rw [HE.out, if_pos (H1.out (by omega)), hE]; exact Lib.hid rfl
        clear hE
        go_wp2_with fail
        (try simp only [Exit.inBlock, Exit.then])
        exact bodyPost_ret (v := .tuple #[.slice none 0 0, .int .i64 E]) (by simp [results, Tryz.f22, go_sem]) rfl (chEnd_bad HE1.out h0 HB1.out)
    · rw [show (((2 : Nat) : Int)) = 2 from rfl]
      have hE0 : chE f g n m = 0 := by rw [HE.out, if_pos (H1.out (by omega)), H2.out (by omega)]
      have HE0 := Lib.hid hE0
      have HT : Hid (chT f g n m = tris f g m n) := by unfold chT; rw [if_pos hE0]; exact Lib.hid rfl
      have HF1 := Lib.hid (HF.out.keep (by decide) HB.out)
      have HG1 := Lib.hid (HG.out.keep (by decide) HB.out)
      clear hE0 H1 H2 HE ix0 ix1 HF HG
      obtain ⟨i0, hi, hz0, hz1, hz2⟩ := info_parts x_int3
      go_wp2_with fail
      generalize hwq : wr = Wr at *
      clear hwq
      go_loopw [9, 36] (fun v vi w1 => ∃ i : Nat, i ≤ n ∧ vi = .int .i64 i ∧ Hid (w1.ownsRow Wr.heap.size 54 3 v (tris f g m i).length (tcells (tris f g m i))) ∧ Hid (Below Wr.heap.size Wr w1)) (fun _ vi _ => n - (intOf vi).toNat)
      case atStart => exact ⟨0, by omega, rfl, ⟨rfl, .inl ⟨rfl, rfl⟩⟩, Below.refl _ _⟩
      case round =>
        obtain ⟨i, hik, rfl, HR, HB1⟩ := hrel
        by_cases hlt : i < n
        · obtain ⟨b3, o3, rfl, hI3⟩ := HF1.out (by omega)
          have hJ3 := hI3.keep HB1.out (hI3.lt (by omega))
          have d0 := hJ3 (i * 2) (by omega)
          have d1 := hJ3.at (i * 2) 1 (by omega)
          have HLn := Lib.hid (tris_len f g m h2 i)
          have HTr : Hid (tris f g m (i + 1) = tris f g m i ++ tri f g i m) := Lib.hid rfl
          obtain ⟨x0, hx0⟩ : ∃ x, f (i * 2) = x := ⟨_, rfl⟩
          obtain ⟨x1, hx1⟩ : ∃ x, f (i * 2 + 1) = x := ⟨_, rfl⟩
          rw [hx0] at d0
          rw [hx1] at d1
          have HX0 := Lib.hid hx0
          have HX1 := Lib.hid hx1
          clear hI3 hJ3 hx0 hx1
          go_wp2_with fail
          have hBx := World.alloc_heap_new wr (.cells #[.int .i64 x0, .int .i64 x1] 60)
          have hR1 := HR.out.alloc (.cells #[.int .i64 x0, .int .i64 x1] 60)
          have hB1 := HB1.out.alloc HB1.out.size (.cells #[.int .i64 x0, .int .i64 x1] 60)
          clear HR HB1 d0 d1
          generalize wr.alloc (.cells #[.int .i64 x0, .int .i64 x1] 60) = V1 at hBx hR1 hB1 ⊢
          generalize wr.heap.size = B at hBx ⊢
          generalize hl : tris f g m i = L0 at hR1 HLn HTr
          clear hl
          have HBx := Lib.hid hBx
          have HR1 := Lib.hid hR1
          have HB1 := Lib.hid hB1
          clear hBx hR1 hB1
          go_loopw [9, 42] (fun v vk w1 => ∃ k : Nat, k ≤ m ∧ vk = .int .i64 k ∧ Hid (w1.ownsRow Wr.heap.size 54 3 v (L0 ++ tri f g i k).length (tcells (L0 ++ tri f g i k))) ∧ Hid (w1.heap[B]? = some (.cells #[.int .i64 x0, .int .i64 x1] 60 (0, 0))) ∧ Hid (Below Wr.heap.size Wr w1)) (fun _ vk _ => m - (intOf vk).toNat)
          case atStart => exact ⟨0, by omega, rfl, by rw [tri, List.append_nil]; exact HR1.out, HBx.out, HB1.out⟩
          case round =>
            obtain ⟨k, hkm, rfl, HR2, HBx2, HB2⟩ := hrel
            by_cases hlt2 : k < m
            · obtain ⟨b4, o4, rfl, hI4⟩ := HG1.out (by omega)
              have hJ4 := hI4.keep HB2.out (hI4.lt (by omega))
              have d0 := hJ4 (k * 2) (by omega)
              have d1 := hJ4.at (k * 2) 1 (by omega)
              have s0 := cell_h (k := 0) HBx2.out rfl
              have s1 := cell_h (k := 1) HBx2.out rfl
              have hBl : B < wr.heap.size := (Array.getElem?_eq_some_iff.1 HBx2.out).1
              have hTl := tri_len f g i k
              have HTs : Hid (L0 ++ tri f g i (k + 1) = (L0 ++ tri f g i k) ++ if g (k * 2) = x1 then [(x0, x1, g (k * 2 + 1))] else []) := by rw [tri, HX0.out, HX1.out, List.append_assoc]; exact Lib.hid rfl
              have hLl : (L0 ++ tri f g i k).length ≤ 24 * i + k := by have := HLn.out; rw [List.length_append]; omega
              generalize L0 ++ tri f g i k = L at HR2 HTs hLl
              generalize g (k * 2) = y0 at d0 HTs
              generalize g (k * 2 + 1) = y1 at d1 HTs
              clear hI4 hJ4 hTl
              by_cases he : y0 = x1
              · subst he
                have hts := HTs.out
                rw [if_pos rfl] at hts
                have HTt := Lib.hid hts
                clear hts HTs
                go_wp2_with (at_builtin; refine wpList_append_own _ rfl _ _ 51 rfl Wr.heap.size 54 i0 (.agg #[.int .i64 0, .int .i64 0, .int .i64 0]) 3 24 Tryz.underlying51 hi hz0 hz1 hz2 rfl (by decide) _ L.length _ rfl ((HR2.out.alloc _).alloc _) ⟨wr.heap.size + 1, 0, none⟩ 1 1 [.int .i64 x0, .int .i64 y0, .int .i64 y1] rfl rfl (by have := cells_tri (wr.alloc (.cells #[.int .i64 y0, .int .i64 y1] 60)) (.int .i64 x0) (.int .i64 y0) (.int .i64 y1) 54; rwa [World.size_alloc] at this) (by simp [Value.oneCell']) (by unfold maxLen; omega) (by omega) (by have := HB2.out.size; simp; omega) ?_; intro v2 w3 hown hgrow _)
                refine ⟨⟨k + 1, by omega, by go_num, ?_, box_grow (by decide) (box_al (box_al HBx2.out _) _) ((HR2.out.alloc _).alloc _) hgrow, ((HB2.out.alloc HB2.out.size _).alloc (by have := HB2.out.size; simp; omega) _).grown hgrow (by have := HB2.out.size; simp; omega) (fun j hj => (HR2.out.lt j hj).1)⟩, by simp [intOf]; omega⟩
                rw [HTt.out, List.length_append, tcells_app, tcells_one]
                exact hown
              · have hts := HTs.out
                rw [if_neg he, List.append_nil] at hts
                have HTt := Lib.hid hts
                clear hts HTs
                go_wp2_with fail
                refine ⟨⟨k + 1, by omega, by go_num, ?_, box_al HBx2.out _, HB2.out.alloc HB2.out.size _⟩, by simp [intOf]; omega⟩
                rw [HTt.out]
                exact HR2.out.alloc _
            · obtain rfl : k = m := by omega
              go_wp2_with fail
              exact ⟨⟨i + 1, by omega, by go_num, by rw [HTr.out]; exact HR2.out, HB2.out⟩, by simp [intOf]; omega⟩
        · obtain rfl : i = n := by omega
          obtain ⟨x, c, rfl, hx⟩ := own_Sl3 HR.out
          have HX := Lib.hid hx
          clear hx
          go_wp2_with fail
          refine bodyPost_ret (v := .tuple #[.slice x (tris f g m i).length c, .int .i64 0]) (by simp [results, Tryz.f22, go_sem]) rfl ?_
          refine ⟨x, c, ?_, ?_, HB.out.trans (HB1.out.mono HB.out.size)⟩
          · rw [HT.out, HE0.out]
          · rw [HT.out]; exact HX.out
end Go.Proofs.YtlbffdgojmjijaaGreatDoor
