/-
  WALKS: an alignment that is handed in.
-/
import Derived.Test.YtonlamkpehakdaaPzA
import Derived.Test.YtonlamkpehakdaaPmL
import Derived.StillTailTactics
import Derived.Deep.RegionHeld3
import Derived.Deep.DeepCutAuto
import Derived.BigQuiet
import Derived.Deep.QuietTactic
namespace Go.Proofs.Ytonlamkpehakdaa
open Go.RowKit

set_option maxRecDepth 100000 in
set_option maxHeartbeats 4000000 in
theorem yapart_of (w : World) (x y : Int) (hx : 0 ≤ x ∧ x ≤ 1073741824) (hy : 0 ≤ y ∧ y ≤ 1073741824) :
    Calls Try.prog 79 #[.int .i64 x, .int .i64 y] w fun e w' => e = .returned (.int .i64 (max (x - y) (y - x))) ∧ w' = w := by
  have w1 : IntKind.i64.wrap (x - y) = x - y := IntWalk.i64_in _ (by omega)
  have w2 : IntKind.i64.wrap (y - x) = y - x := IntWalk.i64_in _ (by omega)
  go_enter Try.func79, Try.ntmps79
  go_wp2
  all_goals
    go_ret
    exact ⟨ret_int (by omega), rfl⟩

theorem wr64 {x : Int} (h : -9223372036854775808 ≤ x ∧ x < 9223372036854775808) : wrap64 x = x := by unfold wrap64; omega
theorem tmod3 {x : Int} (h : 0 ≤ x) : ∃ r : Nat, r ≤ 2 ∧ Hid (x.tmod 3 = (r : Int)) := by
  rw [Int.tmod_eq_emod_of_nonneg h]
  exact ⟨(x % 3).toNat, by omega, Lib.hid (by omega)⟩
/-- A slice of s bytes each. -/
def Sy (s : Nat) (w : World) (a : Option Addr) (n : Nat) (g : Nat → Int) : Prop := 0 < n → ∃ b o, a = some ⟨b, o, none⟩ ∧ b < w.heap.size ∧ ∀ i, i < n * s → w.cell? ⟨b, o + i, none⟩ = some (.int .u8 (g i))
theorem Sy.keep {s : Nat} {w w' : World} {a : Option Addr} {n : Nat} {g : Nat → Int} (h : Sy s w a n g) (hb : Below w.heap.size w w') : Sy s w' a n g := fun hn => by
  obtain ⟨b, o, e, h1, h2⟩ := h hn
  exact ⟨b, o, e, Nat.lt_of_lt_of_le h1 hb.size, fun i hi => (hb.cell (p := ⟨b, o + i, none⟩) h1).trans (h2 i hi)⟩
/-- Pairs that rise, and are near enough. -/
structure Goods (n m : Nat) (g h : Nat → Int) (M : Int) (l : List (Nat × Nat)) : Prop where
  bd : ∀ x, x ∈ l → x.1 < n ∧ x.2 < m ∧ dst g h x.1 x.2 ≤ M
  up : l.Pairwise (fun x y => x.1 < y.1 ∧ x.2 < y.2)
theorem Goods.snoc {n m : Nat} {g h : Nat → Int} {M : Int} {l : List (Nat × Nat)} (H : Goods n m g h M l) {a b : Nat} (ha : a < n) (hb : b < m) (hd : dst g h a b ≤ M) (hl : ∀ x, x ∈ l → x.1 < a ∧ x.2 < b) : Goods n m g h M (l ++ [(a, b)]) := by
  refine ⟨fun x hx => ?_, List.pairwise_append.2 ⟨H.up, by simp, fun x hx y hy => ?_⟩⟩
  · rcases List.mem_append.1 hx with hx | hx
    · exact H.bd x hx
    · obtain rfl := List.mem_singleton.1 hx; exact ⟨ha, hb, hd⟩
  · obtain rfl := List.mem_singleton.1 hy; exact hl x hx

set_option maxRecDepth 100000 in
set_option maxHeartbeats 8000000 in
theorem greedy_of (w : World) (wa ha la : Option Addr) (n wc m hc p lc : Nat) (g h q : Nat → Int) (M : Int) (hn : n ≤ 40) (hm : m ≤ 40) (pg : Plc n g) (ph : Plc m h) (hp : p ≤ 12) (hq : ∀ i, i < p * 2 → 0 ≤ q i ∧ q i ≤ 255) (s1 : Sl w 1 wa n g) (s2 : Sl w 1 ha m h) (s3 : Sy 2 w la p q) :
    Calls Try.prog 41 #[.slice wa n wc, .slice ha m hc, .int .i64 M, .slice la p lc] w fun e w' => ∃ v G, e = .returned v ∧ Goods n m g h M G ∧ G.length ≤ p ∧ w'.ownsRow w.heap.size 107 2 v G.length (pcells G) ∧ Below w.heap.size w w' := by
  obtain ⟨i0, hi0, hz0, hz1, hz2⟩ := info_parts x_pair
  have S1 := Lib.hid s1
  have S2 := Lib.hid s2
  have S3 := Lib.hid s3
  have PG := Lib.hid pg
  have PH := Lib.hid ph
  have HQ := Lib.hid hq
  clear s1 s2 s3 pg ph hq
  go_enter Try.func41, Try.ntmps41
  go_wp2_with fail
  go_loopw [9, 10, 11, 16] (fun vo vw vc vi wr => ∃ (G : List (Nat × Nat)) (a b k : Nat), k ≤ p ∧ vi = .int .i64 k ∧ vw = .int .i64 a ∧ vc = .int .i64 b ∧ a ≤ 3 * k ∧ b ≤ 3 * k ∧ G.length ≤ k ∧ Hid (Goods n m g h M G) ∧ Hid (∀ x, x ∈ G → x.1 < a ∧ x.2 < b) ∧ Hid (wr.ownsRow w.heap.size 107 2 vo G.length (pcells G)) ∧ Hid (Below w.heap.size w wr)) (fun _ _ _ vi _ => p - (intOf vi).toNat)
  case atStart => exact ⟨[], 0, 0, 0, by omega, rfl, rfl, rfl, by omega, by omega, by simp, ⟨fun x hx => absurd hx (by simp), List.Pairwise.nil⟩, fun x hx => absurd hx (by simp), ⟨rfl, .inl ⟨rfl, rfl⟩⟩, Below.refl _ _⟩
  case round =>
    obtain ⟨G, a, b, k, hk, rfl, rfl, rfl, hva, hvb, hG, HG, HL, HO, HB⟩ := hrel
    obtain ⟨xa, cap, rfl⟩ : ∃ x c, u9 = .slice x G.length c := by
      rcases HO.out.2 with ⟨e, h0⟩ | ⟨g', cap, cur, e, _⟩
      · exact ⟨none, 0, by rw [e, h0]⟩
      · exact ⟨_, _, e⟩
    by_cases hlt : k < p
    · obtain ⟨bl, ol, rfl, hbl, hc⟩ := S3.out (by omega)
      have d0 := (HB.out.cell (p := ⟨bl, ol + k * 2, none⟩) hbl).trans (hc (k * 2) (by omega))
      have d1 := (HB.out.cell (p := ⟨bl, ol + (k * 2 + 1), none⟩) hbl).trans (hc (k * 2 + 1) (by omega))
      rw [← Nat.add_assoc] at d1
      have q0 := HQ.out (k * 2) (by omega)
      have q1 := HQ.out (k * 2 + 1) (by omega)
      generalize q (k * 2) = x0 at d0 q0
      generalize q (k * 2 + 1) = x1 at d1 q1
      obtain ⟨r0, hr02, HR0⟩ := tmod3 q0.1
      obtain ⟨r1, hr12, HR1⟩ := tmod3 q1.1
      have wr0 : Hid (wrap64 (r0 : Int) = r0) := Lib.hid (wr64 (by omega))
      have wr1 : Hid (wrap64 (r1 : Int) = r1) := Lib.hid (wr64 (by omega))
      have wa0 : Hid (wrap64 ((a : Int) + r0) = (a : Int) + r0) := Lib.hid (wr64 (by omega))
      have wb0 : Hid (wrap64 ((b : Int) + r1) = (b : Int) + r1) := Lib.hid (wr64 (by omega))
      have hB1 : Below wr.heap.size wr (wr.alloc (.cells #[.int .u8 x0, .int .u8 x1] 84)) := (Below.refl _ _).alloc (Nat.le_refl _) _
      have a1 := World.alloc_heap_new wr (.cells #[.int .u8 x0, .int .u8 x1] 84)
      have hss := HB.out.size
      clear hc
      go_upto_region 6 with fail
      generalize wr.alloc (.cells #[.int .u8 x0, .int .u8 x1] 84) = W1 at hB1 a1 ⊢
      have e0 : W1.cell? ⟨wr.heap.size, 0, none⟩ = some (.int .u8 x0) := cell_h a1 rfl
      have e1 : W1.cell? ⟨wr.heap.size, 1, none⟩ = some (.int .u8 x1) := cell_h a1 rfl
      have HB1 := Lib.hid (HB.out.trans (hB1.mono HB.out.size))
      have HO1 := Lib.hid (own_below HO.out hB1)
      clear hB1 a1 d0 d1 q0 q1
      go_quiet (fail)
      simp only [HR0.out, HR1.out, wr0.out, wr1.out, wa0.out, wb0.out]
      have HB2 : Hid (Below w.heap.size w (W1.drewN nq)) := below_drewN HB1.out nq
      have HO2 : Hid ((W1.drewN nq).ownsRow w.heap.size 107 2 (.slice xa G.length cap) G.length (pcells G)) := HO1.out
      generalize W1.drewN nq = W2 at HB2 HO2 ⊢
      clear e0 e1 HO1 HB1
      have hcs : ((n : Int) ≤ (a : Int) + r0) ∨ ((a : Int) + r0 < n ∧ (m : Int) ≤ (b : Int) + r1) ∨ ((a : Int) + r0 < n ∧ (b : Int) + r1 < m) := by omega
      rcases hcs with h1 | ⟨h1, h2⟩ | ⟨h1, h2⟩
      · go_wp2_with fail
        exact bodyPost_ret (v := .slice xa G.length cap) (by simp [results, Try.f41, go_sem]) rfl ⟨_, G, rfl, HG.out, by omega, HO2.out, HB2.out⟩
      · go_wp2_with fail
        exact bodyPost_ret (v := .slice xa G.length cap) (by simp [results, Try.f41, go_sem]) rfl ⟨_, G, rfl, HG.out, by omega, HO2.out, HB2.out⟩
      · obtain ⟨bg, og, rfl, hIg⟩ := S1.out (by omega)
        obtain ⟨bh, oh, rfl, hIh⟩ := S2.out (by omega)
        have f0 := (hIg.keep HB2.out (hIg.lt (by omega))) (a + r0) (by omega)
        have f1 := (hIh.keep HB2.out (hIh.lt (by omega))) (b + r1) (by omega)
        have p0 := PG.out (a + r0) (by omega)
        have p1 := PH.out (b + r1) (by omega)
        have hCa := fun (W9 : World) => yapart_of W9 (g (a + r0)) (h (b + r1)) p0 p1
        have hDe : max (g (a + r0) - h (b + r1)) (h (b + r1) - g (a + r0)) = dst g h (a + r0) (b + r1) := rfl
        rw [hDe] at hCa
        have HDe : Hid (∀ x, x = dst g h (a + r0) (b + r1) → x ≤ M → Goods n m g h M (G ++ [(a + r0, b + r1)])) := fun x hx hM => HG.out.snoc (by omega) (by omega) (by omega) (fun y hy => by have := HL.out y hy; omega)
        obtain ⟨D, hD⟩ : ∃ D, dst g h (a + r0) (b + r1) = D := ⟨_, rfl⟩
        rw [hD] at hCa
        have HD := Lib.hid hD.symm
        have HCa := Lib.hid hCa
        have ea : ((a + r0 : Nat) : Int) = (a : Int) + r0 := by push_cast; rfl
        have eb : ((b + r1 : Nat) : Int) = (b : Int) + r1 := by push_cast; rfl
        have ta : ((a : Int) + r0).toNat = a + r0 := by omega
        have tb : ((b : Int) + r1).toNat = b + r1 := by omega
        have za : (0 : Int) ≤ (a : Int) + r0 := by omega
        have zb : (0 : Int) ≤ (b : Int) + r1 := by omega
        have wa1 : IntKind.i64.wrap ((a : Int) + r0 + 1) = (a : Int) + r0 + 1 := IntWalk.i64_in _ (by omega)
        have wb1 : IntKind.i64.wrap ((b : Int) + r1 + 1) = (b : Int) + r1 + 1 := IntWalk.i64_in _ (by omega)
        generalize g (a + r0) = gx at f0 hCa HCa
        generalize h (b + r1) = hx at f1 hCa HCa
        have HEa := Lib.hid ea
        have HEb := Lib.hid eb
        clear hIg hIh hDe hD hCa p0 p1 ea eb
        go_wp2_with fail
        go_quiet ((go_at_call 79; with_reducible exact Calls.quiet_of_same (HCa.out _)))
        have HB3 : Hid (Below w.heap.size w (W2.drewN nq)) := below_drewN HB2.out nq
        have HO3 : Hid ((W2.drewN nq).ownsRow w.heap.size 107 2 (.slice xa G.length cap) G.length (pcells G)) := HO2.out
        generalize W2.drewN nq = W3 at HB3 HO3 ⊢
        clear HB2 HO2 f0 f1
        by_cases hDM : D ≤ M
        · go_wp2_with (at_builtin; refine wpList_append_own _ rfl (.tmp 53) (.tmp 57) 22 rfl w.heap.size 107 i0 (.agg #[.int .i64 0, .int .i64 0]) 2 16 Try.underlying22 hi0 hz0 hz1 hz2 rfl (by decide) _ G.length (pcells G) rfl (HO3.out.alloc _) ⟨W3.heap.size, 0, none⟩ 1 1 [.int .i64 ((a : Int) + r0), .int .i64 ((b : Int) + r1)] rfl rfl (cells_two W3 _ _ _) (by simp [Value.oneCell']) (by unfold maxLen; omega) (by omega) (by have := HB3.out.size; simp; omega) ?_)
          intro v7 w7 hown7 hgrow7 _
          have hob := own_block HO3.out
          have hB7 : Below w.heap.size w w7 := (HB3.out.alloc HB3.out.size _).grown hgrow7 (by have := HB3.out.size; simp; omega) (fun r hr => (hob r hr).1)
          have HO7 := Lib.hid hown7
          have HB7 := Lib.hid hB7
          clear hown7 hgrow7 hob hB7
          have HGn := Lib.hid (HDe.out D HD.out hDM)
          go_wp2_with fail
          refine ⟨⟨G ++ [(a + r0, b + r1)], a + r0 + 1, b + r1 + 1, k + 1, by omega, by push_cast; rfl, by push_cast; rfl, by push_cast; rfl, by omega, by omega, by simp; omega, HGn.out, ?_, ?_, HB7.out⟩, by simp [intOf]; omega⟩
          · intro x hx
            rcases List.mem_append.1 hx with hx | hx
            · have := HL.out x hx; omega
            · obtain rfl := List.mem_singleton.1 hx; exact ⟨by show a + r0 < _; omega, by show b + r1 < _; omega⟩
          · have h7 := HO7.out
            rw [← HEa.out, ← HEb.out] at h7
            rw [pcells_snoc, List.length_append]
            exact h7
        · have hDM' : M < D := by omega
          go_wp2_with fail
          refine ⟨⟨G, a + r0 + 1, b + r1 + 1, k + 1, by omega, by push_cast; rfl, by push_cast; rfl, by push_cast; rfl, by omega, by omega, by omega, HG.out, ?_, HO3.out, HB3.out⟩, by simp [intOf]; omega⟩
          intro x hx
          have := HL.out x hx; omega
    · obtain rfl : p = k := by omega
      go_wp2_with fail
      exact bodyPost_ret (v := .slice xa G.length cap) (by simp [results, Try.f41, go_sem]) rfl ⟨_, G, rfl, HG.out, hG, HO.out, HB.out⟩
end Go.Proofs.Ytonlamkpehakdaa
