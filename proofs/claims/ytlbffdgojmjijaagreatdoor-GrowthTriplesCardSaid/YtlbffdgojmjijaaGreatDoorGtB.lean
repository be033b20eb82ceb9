/-
  WALKS: GrowthTriples: its two closures; arrays compared.
-/
import Derived.Test.YtlbffdgojmjijaaGreatDoorGtA
namespace Go.Proofs.YtlbffdgojmjijaaGreatDoor
open Go.RowKit

theorem x_int2 : (Tryz.prog.info? 60).map (fun i => (i.zero, i.size, i.bytes)) = some (some (.agg #[.int .i64 0, .int .i64 0]), 2, 16) := by kernel_rfl
theorem eq_int (v : World) (x y : Int) : (Op.equalIn 9999 3 (.int .i64 x) (.int .i64 y)).run Tryz.prog v = .ok (decide (x = y)) v := by
  rw [show (9999 : Nat) = 9998 + 1 from rfl, run_equalIn_int v 9998 3 .i64 .i64 x y Tryz.underlying3]
  rfl
theorem eq_two (w : World) (a b a' b' : Int) : Sem.run Tryz.prog (Op.equalIn 10000 60 (.agg #[.int .i64 a, .int .i64 b]) (.agg #[.int .i64 a', .int .i64 b'])) w = .ok (decide (a = a') && decide (b = b')) w := by
  obtain ⟨i0, hi, _, _, _⟩ := info_parts x_intv
  have p0 : ∀ v a b, (part 3 #[.int .i64 a, .int .i64 b] 0).run Tryz.prog v = .ok (.int .i64 a) v := fun _ _ _ => by kernel_rfl
  have p1 : ∀ v a b, (part 3 #[.int .i64 a, .int .i64 b] 1).run Tryz.prog v = .ok (.int .i64 b) v := fun _ _ _ => by kernel_rfl
  rw [show (10000 : Nat) = 9999 + 1 from rfl, run_equalIn_array w 9999 #[.int .i64 a, .int .i64 b] #[.int .i64 a', .int .i64 b'] Tryz.underlying60 hi]
  rw [show List.range 2 = [0, 1] from rfl, show Tryz.prog.cellsOf 3 = 1 by kernel_rfl]
  by_cases h1 : a = a' <;> by_cases h2 : b = b' <;> simp [Op.eqItems, p0, p1, eq_int, h1, h2]
theorem eq_three (w : World) (a b c a' b' c' : Int) : Sem.run Tryz.prog (Op.equalIn 10000 54 (.agg #[.int .i64 a, .int .i64 b, .int .i64 c]) (.agg #[.int .i64 a', .int .i64 b', .int .i64 c'])) w = .ok (decide ((a, b, c) = (a', b', c'))) w := by
  obtain ⟨i0, hi, _, _, _⟩ := info_parts x_intv
  have p0 : ∀ v a b c, (part 3 #[.int .i64 a, .int .i64 b, .int .i64 c] 0).run Tryz.prog v = .ok (.int .i64 a) v := fun _ _ _ _ => by kernel_rfl
  have p1 : ∀ v a b c, (part 3 #[.int .i64 a, .int .i64 b, .int .i64 c] 1).run Tryz.prog v = .ok (.int .i64 b) v := fun _ _ _ _ => by kernel_rfl
  have p2 : ∀ v a b c, (part 3 #[.int .i64 a, .int .i64 b, .int .i64 c] 2).run Tryz.prog v = .ok (.int .i64 c) v := fun _ _ _ _ => by kernel_rfl
  rw [show (10000 : Nat) = 9999 + 1 from rfl, run_equalIn_array w 9999 #[.int .i64 a, .int .i64 b, .int .i64 c] #[.int .i64 a', .int .i64 b', .int .i64 c'] Tryz.underlying54 hi]
  rw [show List.range 3 = [0, 1, 2] from rfl, show Tryz.prog.cellsOf 3 = 1 by kernel_rfl]
  by_cases h1 : a = a' <;> by_cases h2 : b = b' <;> by_cases h3 : c = c' <;> simp [Op.eqItems, p0, p1, p2, eq_int, h1, h2, h3]

def prow (f : Nat → Int) (n : Nat) : List Value := (List.range (n * 2)).map fun i => .int .i64 (f i)
theorem prow_succ (f : Nat → Int) (k : Nat) : prow f (k + 1) = prow f k ++ [.int .i64 (f (k * 2)), .int .i64 (f (k * 2 + 1))] := by
  unfold prow
  rw [show (k + 1) * 2 = k * 2 + 2 by omega, List.range_add, List.map_append]
  rfl
theorem own_Sl2 {W : World} {B : Nat} {e : TypeId} {v : Value} {n : Nat} {f : Nat → Int} (h : W.ownsRow B e 2 v n (prow f n)) : ∃ x c, v = .slice x n c ∧ Sl W 2 x n f := by
  cases n with
  | zero =>
    rcases h.2 with ⟨rfl, _⟩ | ⟨g, cap, cur, rfl, _⟩
    · exact ⟨none, 0, rfl, fun h => absurd h (by decide)⟩
    · exact ⟨some ⟨g, 0, none⟩, cap, rfl, fun h => absurd h (by decide)⟩
  | succ m =>
    obtain ⟨g, cap, rfl⟩ := ownsRow_succ h
    refine ⟨some ⟨g, 0, none⟩, cap, rfl, fun _ => ⟨g, 0, rfl, fun i hi => ?_⟩⟩
    rw [Nat.zero_add, World.ownsRow.cellAt h i hi]
    simp [prow, hi]
theorem cells_duo (W : World) (a b : Value) (t : TypeId) : ∀ (j : Nat) (u : Value), [a, b][j]? = some u → (W.alloc (.cells #[a, b] t)).cell? ((⟨W.heap.size, 0, none⟩ : Addr).add j) = some u := by
  intro j u h
  have hh := World.alloc_heap_new W (.cells #[a, b] t)
  match j, h with
  | 0, h => rw [show (⟨W.heap.size, 0, none⟩ : Addr).add 0 = ⟨W.heap.size, 0, none⟩ by simp [Addr.add], cell_h hh rfl]; simpa using h
  | 1, h => rw [show (⟨W.heap.size, 0, none⟩ : Addr).add 1 = ⟨W.heap.size, 1, none⟩ by simp [Addr.add], cell_h hh rfl]; simpa using h

/-- A slice of pairs of bytes. -/
def Sb (w : World) (a : Option Addr) (n : Nat) (s : Nat → Int) : Prop := 0 < n → ∃ b o, a = some ⟨b, o, none⟩ ∧ ∀ i, i < n * 2 → w.cell? ⟨b, o + i, none⟩ = some (.int .u8 (s i))
theorem Sb.keep {w W : World} {a : Option Addr} {n : Nat} {s : Nat → Int} (h : Sb w a n s) (hb : Below w.heap.size w W) : Sb W a n s := fun hn => by
  obtain ⟨b, o, e, hc⟩ := h hn
  exact ⟨b, o, e, fun i hi => (hb.cell (p := ⟨b, o + i, none⟩) (World.block_lt_of_cell? _ _ (hc i hi))).trans (hc i hi)⟩

set_option maxRecDepth 100000 in
set_option maxHeartbeats 4000000 in
theorem whole_of (w : World) (a : Option Addr) (n c : Nat) (s : Nat → Int) (hn : n ≤ 20) (hs : bpok s n) (hS : Sb w a n s) :
    Calls Tryz.prog 24 #[.slice a n c] w fun e W => ∃ x c', e = .returned (.slice x n c') ∧ Sl W 2 x n (bpF s) ∧ Below w.heap.size w W := by
  obtain ⟨i0, hi, hz0, hz1, hz2⟩ := info_parts x_int2
  have HS := Lib.hid hS
  have HSb := Lib.hid hs
  clear hS hs
  go_enter Tryz.func24, Tryz.ntmps24
  go_wp2_with fail
  go_loopw [3, 8] (fun v vi wr => ∃ k : Nat, k ≤ n ∧ vi = .int .i64 k ∧ Hid (wr.ownsRow w.heap.size 60 2 v k (prow (bpF s) k)) ∧ Hid (Below w.heap.size w wr)) (fun _ vi _ => n - (intOf vi).toNat)
  case atStart => exact ⟨0, by omega, rfl, ⟨rfl, .inl ⟨rfl, rfl⟩⟩, Below.refl _ _⟩
  case round =>
    obtain ⟨k, hk, rfl, HR, HB⟩ := hrel
    by_cases hlt : k < n
    · obtain ⟨b, o, rfl, hc⟩ := HS.out (by omega)
      have hbl : b < w.heap.size := World.block_lt_of_cell? _ _ (hc (k * 2) (by omega))
      have d0 := (HB.out.cell (p := ⟨b, o + k * 2, none⟩) hbl).trans (hc (k * 2) (by omega))
      have d1 := (HB.out.cell (p := ⟨b, o + (k * 2 + 1), none⟩) hbl).trans (hc (k * 2 + 1) (by omega))
      rw [← Nat.add_assoc] at d1
      have q0 := HSb.out (k * 2) (by omega)
      have q1 := HSb.out (k * 2 + 1) (by omega)
      have HP : Hid (prow (bpF s) (k + 1) = prow (bpF s) k ++ [.int .i64 (s (k * 2) % 24), .int .i64 (s (k * 2 + 1) % 24)]) := prow_succ (bpF s) k
      have hss := HB.out.size
      clear hc
      generalize s (k * 2) = x0 at d0 q0 HP
      generalize s (k * 2 + 1) = x1 at d1 q1 HP
      have HNew : ∀ (j : Nat) (u : Value), [Value.int .i64 (x0 % 24), .int .i64 (x1 % 24)][j]? = some u → ((wr.alloc (.cells #[.int .u8 x0, .int .u8 x1] 59)).alloc (.cells #[.int .i64 (x0 % 24), .int .i64 (x1 % 24)] 60)).cell? ((⟨wr.heap.size + 1, 0, none⟩ : Addr).add j) = some u := by
        have := cells_duo (wr.alloc (.cells #[.int .u8 x0, .int .u8 x1] 59)) (.int .i64 (x0 % 24)) (.int .i64 (x1 % 24)) 60
        rwa [World.size_alloc] at this
      have HNew := Lib.hid HNew
      go_wp2_with (at_builtin; refine wpList_append_own _ rfl _ _ 38 rfl w.heap.size 60 i0 (.agg #[.int .i64 0, .int .i64 0]) 2 16 Tryz.underlying38 hi hz0 hz1 hz2 rfl (by decide) _ k _ rfl ((HR.out.alloc _).alloc _) ⟨wr.heap.size + 1, 0, none⟩ 1 1 [.int .i64 (x0 % 24), .int .i64 (x1 % 24)] rfl rfl HNew.out (by simp [Value.oneCell']) (by unfold maxLen; omega) (by omega) (by simp; omega) ?_; intro v4 W4 hown4 hgrow4 _)
      exact ⟨⟨k + 1, by omega, by go_num, by rw [HP.out]; exact hown4, ((HB.out.alloc hss _).alloc (by simp; omega) _).grown hgrow4 (by simp; omega) (fun j hj => (HR.out.lt j hj).1)⟩, by simp [intOf]; omega⟩
    · obtain rfl : k = n := by omega
      obtain ⟨x, c', rfl, hx⟩ := own_Sl2 HR.out
      go_wp2_with fail
      refine bodyPost_ret (v := .slice x k c') (by simp [results, Tryz.f24, go_sem]) rfl ⟨x, c', rfl, hx, HB.out⟩

set_option maxRecDepth 100000 in
set_option maxHeartbeats 4000000 in
theorem has_of (w : World) (a : Option Addr) (n c : Nat) (f : Nat → Int) (x y : Int) (hn : n ≤ 4611686018427387903) (hS : Sl w 2 a n f) :
    Calls Tryz.prog 25 #[.slice a n c, .agg #[.int .i64 x, .int .i64 y]] w fun e W => e = .returned (.bool (hp f n x y)) ∧ Below w.heap.size w W := by
  have hB0 := (Below.refl w.heap.size w).alloc (Nat.le_refl _) (.cells #[.int .i64 x, .int .i64 y] 60)
  have a0 := World.alloc_heap_new w (.cells #[.int .i64 x, .int .i64 y] 60)
  have HS := Lib.hid (hS.keep (by decide) hB0)
  clear hS
  go_enter Tryz.func25, Tryz.ntmps25
  go_wp2_with fail
  generalize w.alloc (.cells #[.int .i64 x, .int .i64 y] 60) = W0 at *
  have HB0 := Lib.hid hB0
  have HA0 := Lib.hid a0
  clear hB0 a0
  generalize hbb : w.heap.size = B at HA0 ⊢
  have hBl : B < W0.heap.size := (Array.getElem?_eq_some_iff.1 HA0.out).1
  go_loopw [9] (fun vk wr => ∃ k : Nat, k ≤ n ∧ vk = .int .i64 k ∧ Hid (∀ j, j < k → (decide (f (j * 2) = x) && decide (f (j * 2 + 1) = y)) = false) ∧ Hid (Below W0.heap.size W0 wr)) (fun vk _ => n - (intOf vk).toNat)
  case atStart => exact ⟨0, by omega, rfl, fun j hj => by omega, Below.refl _ _⟩
  case round =>
    obtain ⟨k, hk, rfl, HN, HB⟩ := hrel
    by_cases hlt : k < n
    · obtain ⟨b1, o1, rfl, h1⟩ := HS.out (by omega)
      have h2 := h1.keep HB.out (h1.lt (by omega))
      have d0 := h2 (k * 2) (by omega)
      have d1 := h2.at (k * 2) 1 (by omega)
      have s0 := (HB.out.cell (p := ⟨B, 0, none⟩) hBl).trans (cell_h HA0.out rfl)
      have s1 := (HB.out.cell (p := ⟨B, 1, none⟩) hBl).trans (cell_h HA0.out rfl)
      have hBr : B < wr.heap.size := Nat.lt_of_lt_of_le hBl HB.out.size
      have heq := fun V => eq_two V x y (f (k * 2)) (f (k * 2 + 1))
      obtain ⟨r, hr⟩ : ∃ r, (decide (x = f (k * 2)) && decide (y = f (k * 2 + 1))) = r := ⟨_, rfl⟩
      rw [hr] at heq
      have hr2 : (decide (f (k * 2) = x) && decide (f (k * 2 + 1) = y)) = r := by rw [← hr]; simp only [eq_comm]
      have HRr := Lib.hid hr2
      clear h1 h2 hr hr2
      cases r with
      | true =>
        have HT : Hid (hp f n x y = true) := by unfold hp; rw [List.any_eq_true]; exact ⟨k, List.mem_range.2 hlt, HRr.out⟩
        generalize f (k * 2) = z0 at d0 heq
        generalize f (k * 2 + 1) = z1 at d1 heq
        clear HRr HN
        go_wp2_with fail
        (try simp only [Exit.inBlock, Exit.then])
        exact bodyPost_ret (v := .bool true) (by simp [results, Tryz.f25, go_sem]) rfl ⟨by rw [HT.out], by have h := (HB0.out.trans (HB.out.mono HB0.out.size)).alloc (Nat.le_trans HB0.out.size HB.out.size) (.cells #[.int .i64 z0, .int .i64 z1] 60); exact h⟩
      | false =>
        have HN2 : Hid (∀ j, j < k + 1 → (decide (f (j * 2) = x) && decide (f (j * 2 + 1) = y)) = false) := fun j hj => by
          by_cases ej : j = k
          · subst ej; exact HRr.out
          · exact HN.out j (by omega)
        generalize f (k * 2) = z0 at d0 heq
        generalize f (k * 2 + 1) = z1 at d1 heq
        clear HRr HN
        go_wp2_with fail
        exact ⟨⟨k + 1, by omega, by go_num, HN2.out, HB.out.alloc HB.out.size _⟩, by simp [intOf]; omega⟩
    · obtain rfl : k = n := by omega
      have HT : Hid (hp f k x y = false) := by unfold hp; rw [List.any_eq_false]; intro j hj; rw [HN.out j (List.mem_range.1 hj)]; decide
      go_wp2_with fail
      exact bodyPost_ret (v := .bool false) (by simp [results, Tryz.f25, go_sem]) rfl ⟨by rw [HT.out], by have h := HB0.out.trans (HB.out.mono HB0.out.size); exact h⟩
end Go.Proofs.YtlbffdgojmjijaaGreatDoor
