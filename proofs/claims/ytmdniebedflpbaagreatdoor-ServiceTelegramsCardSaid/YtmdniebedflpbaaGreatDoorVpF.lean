/-
  WALKS: Unpack (the program).
-/
import Derived.Test.YtmdniebedflpbaaGreatDoorVpD
namespace Go.Proofs.YtmdniebedflpbaaGreatDoor
open Go.RowKit

theorem or_step {x b j : Nat} (hx : x < 256 ^ j) (hb : b < 256) (hj : j ≤ 7) : bits .or .u64 (x : Int) ((b * 256 ^ j : Nat) : Int) = ((x + 256 ^ j * b : Nat) : Int) := by
  have h7 : 256 ^ j ≤ 256 ^ 7 := Nat.pow_le_pow_right (by decide) hj
  have hm : b * 256 ^ j ≤ 255 * 256 ^ j := Nat.mul_le_mul_right _ (by omega)
  rw [bits_or_u64_nat _ _ (by omega) (by omega)]
  have e : (256 : Nat) ^ j = 2 ^ (8 * j) := by rw [Nat.pow_mul]
  have h := Nat.shiftLeft_add_eq_or_of_lt (show x < 2 ^ (8 * j) by rw [← e]; exact hx) b
  rw [Nat.shiftLeft_eq, ← e] at h
  rw [Nat.or_comm, ← h, Nat.mul_comm (256 ^ j) b, Nat.add_comm]
theorem shl_step {b j : Nat} (hb : b < 256) (hj : j ≤ 7) : IntKind.u64.wrap ((b : Int) * 2 ^ (8 * j)) = ((b * 256 ^ j : Nat) : Int) := by
  have h7 : 256 ^ j ≤ 256 ^ 7 := Nat.pow_le_pow_right (by decide) hj
  have hm : b * 256 ^ j ≤ 255 * 256 ^ j := Nat.mul_le_mul_right _ (by omega)
  have e : ((b : Int) * 2 ^ (8 * j)) = ((b * 256 ^ j : Nat) : Int) := by
    rw [show (256 : Nat) ^ j = 2 ^ (8 * j) by rw [Nat.pow_mul]]
    simp
  rw [e, IntKind.wrap_u64]
  omega
theorem take_lt {L : List Nat} (h : ∀ x ∈ L, x < 256) (p k : Nat) : valN ((L.drop p).take k) < 256 ^ k :=
  Nat.lt_of_lt_of_le (val_lt _ (fun x hx => h x (List.mem_of_mem_drop (List.mem_of_mem_take hx)))) (Nat.pow_le_pow_right (by decide) (by rw [List.length_take]; omega))

set_option maxRecDepth 100000 in
set_option maxHeartbeats 8000000 in
theorem take_of (W : World) (gb ga : Nat) (L : List Nat) (p k : Nat) (hb : Ba W gb L) (hL : L.length = 24) (hlt : ∀ x ∈ L, x < 256) (ha : W.heap[ga]? = some (.cells #[.int .i64 (p : Int)] 3 (0, 0))) (hpk : p + k ≤ 24) (hk : k ≤ 8) :
    Calls Tryz.prog 53 #[.int .i64 (k : Int), .pointer (some ⟨gb, 0, none⟩), .pointer (some ⟨ga, 0, none⟩)] W fun e W' => e = .returned (.int .u64 ((valN ((L.drop p).take k) : Nat) : Int)) ∧ W' = W.setCell ⟨ga, 0, none⟩ (.int .i64 ((p + k : Nat) : Int)) := by
  have HB := Lib.hid hb
  have HX := Lib.hid hlt
  have a0 := cell_h (k := 0) ha rfl
  have af := fz_h ha 0
  clear hb hlt ha
  go_enter Tryz.func53, Tryz.ntmps53
  go_wp2_with fail
  go_loopw [5, 6, 8] (fun vx vy vi wr => ∃ j : Nat, j ≤ k ∧ vx = .int .u64 ((valN ((L.drop p).take j) : Nat) : Int) ∧ vi = .int .i64 (j : Int) ∧ wr = W) (fun _ _ vi _ => k - (intOf vi).toNat)
  case atStart => exact ⟨0, by omega, rfl, rfl, rfl⟩
  case round =>
    obtain ⟨j, hj, rfl, rfl, rfl⟩ := hrel
    by_cases hlt : j < k
    · have hkn : (j : Int) < (k : Int) := by omega
      have c0 := HB.out.cell (j := p + j) (by omega)
      have hx : L.getD (p + j) 0 < 256 := by
        rw [List.getD_eq_getElem?_getD, List.getElem?_eq_getElem (by omega)]
        exact HX.out _ (List.getElem_mem _)
      have hs : (L.drop p).take (j + 1) = (L.drop p).take j ++ [L.getD (p + j) 0] := by
        rw [List.take_succ_eq_append_getElem (by rw [List.length_drop]; omega), List.getElem_drop, List.getD_eq_getElem?_getD, List.getElem?_eq_getElem (by omega)]
        rfl
      have hv : valN ((L.drop p).take (j + 1)) = valN ((L.drop p).take j) + 256 ^ j * L.getD (p + j) 0 := by
        rw [hs, valN_snoc, List.length_take, List.length_drop, Nat.min_eq_left (by omega)]
      have hvl := take_lt HX.out p j
      obtain ⟨b, hbb⟩ : ∃ b, L.getD (p + j) 0 = b := ⟨_, rfl⟩
      obtain ⟨y, hy⟩ : ∃ y, valN ((L.drop p).take j) = y := ⟨_, rfl⟩
      rw [hbb] at c0 hx hv
      rw [hy] at hv hvl ⊢
      have HV := Lib.hid hv
      have EO := Lib.hid (or_step hvl hx (show j ≤ 7 by omega))
      have EW : Hid (IntKind.u64.wrap ((b : Int) * 2 ^ (8 * j)) = ((b * 256 ^ j : Nat) : Int)) := Lib.hid (shl_step hx (by omega))
      have e1 : IntKind.u64.wrap (b : Int) = (b : Int) := by rw [IntKind.wrap_u64]; omega
      have hp24 : p ≤ 24 := by omega
      have hpj : (p : Int) + (j : Int) < 24 := by omega
      have hpj0 : 0 ≤ (p : Int) + (j : Int) := by omega
      clear hs hv hbb hy
      go_wp2_with fail
      rw [EW.out, EO.out]
      exact ⟨⟨j + 1, by omega, by rw [HV.out], by go_num, trivial⟩, by simp [intOf]; omega⟩
    · obtain rfl : j = k := by omega
      go_wp2_with fail
      go_ret
      exact ⟨rfl, rfl⟩
/-- The telegram in bytes; what Unpack returns. -/
def tgOf (L : List Nat) : Tg := ⟨((valN (L.take 2) : Nat) : Int), ((valN ((L.drop 2).take 6) : Nat) : Int), ((valN ((L.drop 8).take 6) : Nat) : Int), ((valN ((L.drop 14).take 2) : Nat) : Int)⟩
def tg0 : Tg := ⟨0, 0, 0, 0⟩
def upR (L : List Nat) : Tg × Int := if valN (L.drop 16) = dgN (L.take 16) then (if (tgOf L).ok then (tgOf L, 0) else (tg0, 2)) else (tg0, 102)
/-- What Unpack has: the bytes, the result, how far it has come, the telegram. -/
structure UpSt (w W : World) (g0 g1 g2 g3 : Nat) (L : List Nat) (p : Nat) (t : Tg) : Prop where
  hb : Ba W g0 L
  hr : Tb W g1 43 tg0
  ha : W.heap[g2]? = some (.cells #[.int .i64 (p : Int)] 3 (0, 0))
  ht : Tb W g3 43 t
  below : Below g0 w W
theorem UpSt.at {w W : World} {g0 g1 g2 g3 p : Nat} {L : List Nat} {t : Tg} (h : UpSt w W g0 g1 g2 g3 L p t) (h1 : g0 < g1) (h2 : g1 < g2) (h3 : g2 < g3) (q : Nat) : UpSt w (W.setCell ⟨g2, 0, none⟩ (.int .i64 (q : Int))) g0 g1 g2 g3 L q t :=
  ⟨(Below.heap_setCell _ _ _ _ (by simp; omega)).trans h.hb, (Below.heap_setCell _ _ _ _ (by simp; omega)).trans h.hr, heap_set h.ha _, (Below.heap_setCell _ _ _ _ (by simp; omega)).trans h.ht, h.below.setCell (by simp; omega) _⟩
theorem UpSt.f {w W : World} {g0 g1 g2 g3 p : Nat} {L : List Nat} {t u : Tg} (h : UpSt w W g0 g1 g2 g3 L p t) (h1 : g0 < g1) (h2 : g1 < g2) (h3 : g2 < g3) (k : Nat) (v : Value) (hu : Tb (W.setCell ⟨g3, k, none⟩ v) g3 43 u) : UpSt w (W.setCell ⟨g3, k, none⟩ v) g0 g1 g2 g3 L p u :=
  ⟨(Below.heap_setCell _ _ _ _ (by simp; omega)).trans h.hb, (Below.heap_setCell _ _ _ _ (by simp; omega)).trans h.hr, (Below.heap_setCell _ _ _ _ (by simp; omega)).trans h.ha, hu, h.below.setCell (by simp; omega) _⟩

set_option maxRecDepth 100000 in
set_option maxHeartbeats 16000000 in
theorem unpack_of (w : World) (L : List Nat) (hL : L.length = 24) (hlt : ∀ x ∈ L, x < 256) : Calls Tryz.prog 21 #[.agg (u8a L)] w fun e W => e = .returned (.tuple #[(upR L).1.val, .int .i64 (upR L).2]) ∧ Below w.heap.size w W := by
  have HF : Hid (∀ W, Calls Tryz.prog 50 #[(tgOf L).val] W fun e w' => e = .returned (.bool (decide (tgOf L).ok)) ∧ Below W.heap.size W w') := fun W => fits_of W (tgOf L)
  have HX := Lib.hid hlt
  have HTK : Hid (∀ (w W : World) (g0 g1 g2 g3 p : Nat) (t : Tg) (k : Nat), UpSt w W g0 g1 g2 g3 L p t → p + k ≤ 24 → k ≤ 8 → Calls Tryz.prog 53 #[.int .i64 (k : Int), .pointer (some ⟨g0, 0, none⟩), .pointer (some ⟨g2, 0, none⟩)] W fun e W' => e = .returned (.int .u64 ((valN ((L.drop p).take k) : Nat) : Int)) ∧ W' = W.setCell ⟨g2, 0, none⟩ (.int .i64 ((p + k : Nat) : Int))) := fun w W g0 g1 g2 g3 p t k h h1 h2 => take_of W g0 g2 L p k h.hb hL hlt h.ha h1 h2
  have bx := take_lt hlt 0 2
  have by_ := take_lt hlt 2 6
  have bz := take_lt hlt 8 6
  have bt := take_lt hlt 14 2
  have hw : (∃ x y z t : Nat, x < 256 ^ 2 ∧ y < 256 ^ 6 ∧ z < 256 ^ 6 ∧ t < 256 ^ 2 ∧ valN ((L.drop 0).take 2) = x ∧ valN ((L.drop 2).take 6) = y ∧ valN ((L.drop 8).take 6) = z ∧ valN ((L.drop 14).take 2) = t ∧ tgOf L = ⟨(x : Int), (y : Int), (z : Int), (t : Int)⟩) := ⟨_, _, _, _, bx, by_, bz, bt, rfl, rfl, rfl, rfl, rfl⟩
  obtain ⟨x, y, z, t, hx, hy, hz, ht, ex, ey, ez, et, hT⟩ := hw
  have EX := Lib.hid ex
  have EY := Lib.hid ey
  have EZ := Lib.hid ez
  have ET := Lib.hid et
  have hsv : valN ((L.drop 16).take 8) = valN (L.drop 16) := by rw [List.take_of_length_le (by rw [List.length_drop]; omega)]
  have HSV := Lib.hid hsv
  have hR : upR L = if valN (L.drop 16) = dgN (L.take 16) then (if (tgOf L).ok then (tgOf L, 0) else (tg0, 2)) else (tg0, 102) := rfl
  have HRR := Lib.hid hR
  have hby : ∀ W g, Ba W g L → Lib.Bytes W g 0 (bsOf (L.take 16)) := fun W g h => bytes_of (fun x hx => hlt x (List.mem_of_mem_take hx)) fun j hj => by
    rw [List.length_take] at hj
    rw [Nat.zero_add, h.cell (by omega)]
    congr 3
    simp only [List.getD_eq_getElem?_getD]
    rw [List.getElem?_take_of_lt (by omega)]
  have h16 : (L.take 16).length = 16 := by rw [List.length_take]; omega
  have hcv : ∀ W g, Ba W g L → (convert 57 9 (.slice (some ⟨g, 0, none⟩) 16 24)).run Tryz.prog W = .ok (.string (bsOf (L.take 16))) W := fun W g h => by
    have q := Lib.run_convert_whole (P := Tryz.prog) W 57 5 9 Tryz.underlying57 Tryz.underlying5 Tryz.underlying9 g 0 (bsOf (L.take 16)) (hby W g h) 24
    rw [bsOf_size, h16] at q
    exact q
  have HCV := Lib.hid hcv
  have hdg : Hid (∀ W, Calls Tryz.prog 23 #[.int .u64 7, .string (bsOf (L.take 16))] W fun e w' => e = .returned (.int .u64 ((dgN (L.take 16) : Nat) : Int)) ∧ w' = W) := fun W => by
    have q := digest_of W 7 (by decide) (bsOf (L.take 16)) (by rw [bsOf_size, h16]; decide)
    rw [bsOf_list] at q
    exact q
  clear bx by_ bz bt ex ey ez et hsv hR hby hcv h16 hlt
  go_enter Tryz.func21, Tryz.ntmps21
  go_upto_region 4 with fail
  obtain ⟨W, hW⟩ : ∃ W, (((w.alloc (.cells (u8a L) 44)).alloc (.cells #[.int .i64 0, .int .i64 0, .int .i64 0, .int .i64 0] 43)).alloc (.cells #[.int .i64 0] 3)).alloc (.cells #[.int .i64 0, .int .i64 0, .int .i64 0, .int .i64 0] 43) = W := ⟨_, rfl⟩
  have U : UpSt w W w.heap.size (w.heap.size + 1) (w.heap.size + 1 + 1) (w.heap.size + 1 + 1 + 1) L 0 tg0 := by
    rw [← hW]
    exact ⟨al_old (al_old (al_old (new_heap w _) _) _) _, al_old (al_old (al_1 w _ _) _) _, al_old (al_2 w _ _ _) _, al_3 w _ _ _ _, ((((Below.refl _ _).alloc (Nat.le_refl _) _).alloc (by simp) _).alloc (by simp; omega) _).alloc (by simp; omega) _⟩
  rw [hW]
  clear hW
  obtain ⟨g3, hg3⟩ : ∃ g3, w.heap.size + 1 + 1 + 1 = g3 := ⟨_, rfl⟩
  obtain ⟨g2, hg2⟩ : ∃ g2, w.heap.size + 1 + 1 = g2 := ⟨_, rfl⟩
  obtain ⟨g1, hg1⟩ : ∃ g1, w.heap.size + 1 = g1 := ⟨_, rfl⟩
  rw [hg3] at U ⊢
  rw [hg2] at U ⊢
  rw [hg1] at U ⊢
  have h1 : w.heap.size < g1 := by omega
  have h2 : g1 < g2 := by omega
  have h3 : g2 < g3 := by omega
  clear hg1 hg2 hg3
  have U0 := Lib.hid U
  clear U
  go_wp2_with fail
  refine (HTK.out w _ _ g1 g2 g3 0 tg0 2 U0.out (by decide) (by decide)).mono ?_
  rintro e V0 ⟨rfl, hV⟩
  rw [EX.out]
  have A0 : Hid (UpSt w V0 w.heap.size g1 g2 g3 L 2 tg0) := by rw [hV]; exact U0.out.at h1 h2 h3 2
  have q0 : IntKind.i64.wrap (x : Int) = (x : Int) := IntWalk.i64_in _ (by omega)
  have t0 := cell_h (k := 0) A0.out.ht rfl
  have tf := fz_h A0.out.ht 0
  clear hV U0
  go_upto_region 5 with fail
  have U1 : Hid (UpSt w (V0.setCell ⟨g3, 0, none⟩ (.int .i64 (x : Int))) w.heap.size g1 g2 g3 L 2 ⟨x, 0, 0, 0⟩) := A0.out.f h1 h2 h3 0 _ (by have q := heap_set (k := 0) A0.out.ht (.int .i64 (x : Int)); exact q)
  generalize V0.setCell ⟨g3, 0, none⟩ (.int .i64 (x : Int)) = Y0 at U1 ⊢
  clear A0 q0 t0 tf
  go_wp2_with fail
  refine (HTK.out w _ _ g1 g2 g3 2 ⟨x, 0, 0, 0⟩ 6 U1.out (by decide) (by decide)).mono ?_
  rintro e V1 ⟨rfl, hV⟩
  rw [EY.out]
  have A1 : Hid (UpSt w V1 w.heap.size g1 g2 g3 L 8 ⟨x, 0, 0, 0⟩) := by rw [hV]; exact U1.out.at h1 h2 h3 8
  have q0 : IntKind.i64.wrap (y : Int) = (y : Int) := IntWalk.i64_in _ (by omega)
  have t0 := cell_h (k := 1) A1.out.ht rfl
  have tf := fz_h A1.out.ht 1
  clear hV U1
  go_upto_region 6 with fail
  have U2 : Hid (UpSt w (V1.setCell ⟨g3, 1, none⟩ (.int .i64 (y : Int))) w.heap.size g1 g2 g3 L 8 ⟨x, y, 0, 0⟩) := A1.out.f h1 h2 h3 1 _ (by have q := heap_set (k := 1) A1.out.ht (.int .i64 (y : Int)); exact q)
  generalize V1.setCell ⟨g3, 1, none⟩ (.int .i64 (y : Int)) = Y1 at U2 ⊢
  clear A1 q0 t0 tf
  go_wp2_with fail
  refine (HTK.out w _ _ g1 g2 g3 8 ⟨x, y, 0, 0⟩ 6 U2.out (by decide) (by decide)).mono ?_
  rintro e V2 ⟨rfl, hV⟩
  rw [EZ.out]
  have A2 : Hid (UpSt w V2 w.heap.size g1 g2 g3 L 14 ⟨x, y, 0, 0⟩) := by rw [hV]; exact U2.out.at h1 h2 h3 14
  have q0 : IntKind.i64.wrap (z : Int) = (z : Int) := IntWalk.i64_in _ (by omega)
  have t0 := cell_h (k := 2) A2.out.ht rfl
  have tf := fz_h A2.out.ht 2
  clear hV U2
  go_upto_region 7 with fail
  have U3 : Hid (UpSt w (V2.setCell ⟨g3, 2, none⟩ (.int .i64 (z : Int))) w.heap.size g1 g2 g3 L 14 ⟨x, y, z, 0⟩) := A2.out.f h1 h2 h3 2 _ (by have q := heap_set (k := 2) A2.out.ht (.int .i64 (z : Int)); exact q)
  generalize V2.setCell ⟨g3, 2, none⟩ (.int .i64 (z : Int)) = Y2 at U3 ⊢
  clear A2 q0 t0 tf
  go_wp2_with fail
  refine (HTK.out w _ _ g1 g2 g3 14 ⟨x, y, z, 0⟩ 2 U3.out (by decide) (by decide)).mono ?_
  rintro e V3 ⟨rfl, hV⟩
  rw [ET.out]
  have A3 : Hid (UpSt w V3 w.heap.size g1 g2 g3 L 16 ⟨x, y, z, 0⟩) := by rw [hV]; exact U3.out.at h1 h2 h3 16
  have q0 : IntKind.i64.wrap (t : Int) = (t : Int) := IntWalk.i64_in _ (by omega)
  have t0 := cell_h (k := 3) A3.out.ht rfl
  have tf := fz_h A3.out.ht 3
  clear hV U3
  go_upto_region 8 with fail
  have U4 : Hid (UpSt w (V3.setCell ⟨g3, 3, none⟩ (.int .i64 (t : Int))) w.heap.size g1 g2 g3 L 16 ⟨x, y, z, t⟩) := A3.out.f h1 h2 h3 3 _ (by have q := heap_set (k := 3) A3.out.ht (.int .i64 (t : Int)); exact q)
  generalize V3.setCell ⟨g3, 3, none⟩ (.int .i64 (t : Int)) = Y3 at U4 ⊢
  clear A3 q0 t0 tf
  obtain ⟨sv, hsv⟩ : ∃ sv, valN (L.drop 16) = sv := ⟨_, rfl⟩
  obtain ⟨dv, hdv⟩ : ∃ dv, dgN (L.take 16) = dv := ⟨_, rfl⟩
  rw [hsv] at HSV HRR
  rw [hdv] at hdg HRR
  obtain ⟨r, hr⟩ : ∃ r, upR L = r := ⟨_, rfl⟩
  rw [hr] at HRR
  have HT2 : Hid (tgOf L = ⟨(x : Int), (y : Int), (z : Int), (t : Int)⟩) := Lib.hid hT
  have hb4 : Ba Y3.drew w.heap.size L := U4.out.hb
  have U5 : Hid (UpSt w Y3.drew w.heap.size g1 g2 g3 L 16 ⟨x, y, z, t⟩) := ⟨U4.out.hb, U4.out.hr, U4.out.ha, U4.out.ht, U4.out.below.drew⟩
  have hb5 : Ba (Y3.setCell ⟨g2, 0, none⟩ (.int .i64 24)).drew w.heap.size L := (U4.out.at h1 h2 h3 24).hb
  have HT4 : Hid (Calls Tryz.prog 53 #[.int .i64 8, .pointer (some ⟨w.heap.size, 0, none⟩), .pointer (some ⟨g2, 0, none⟩)] Y3.drew fun e W' => e = .returned (.int .u64 (sv : Int)) ∧ W' = (Y3.setCell ⟨g2, 0, none⟩ (.int .i64 24)).drew) := by
    have q := HTK.out w Y3.drew w.heap.size g1 g2 g3 16 _ 8 U5.out (by decide) (by decide)
    rw [HSV.out] at q
    exact q
  have U6 : Hid (UpSt w (Y3.setCell ⟨g2, 0, none⟩ (.int .i64 24)).drew w.heap.size g1 g2 g3 L 24 ⟨x, y, z, t⟩) := by
    have q := U4.out.at h1 h2 h3 24
    exact ⟨q.hb, q.hr, q.ha, q.ht, q.below.drew⟩
  have hcv := HCV.out
  clear U4 U5 HTK HSV HCV EX EY EZ ET
  go_region_held3 (fun W' => Ba W' w.heap.size L) (first | (with_reducible assumption) | go_keep) (first | (go_at_call 53; refine HT4.out.mono ?_; rintro e V4 ⟨rfl, rfl⟩) | (go_at_call 23; refine (hdg.out _).mono ?_; rintro e w9 ⟨rfl, rfl⟩))
  have HF2 : Hid (∀ W, Calls Tryz.prog 50 #[.agg #[.int .i64 (x : Int), .int .i64 (y : Int), .int .i64 (z : Int), .int .i64 (t : Int)]] W fun e w' => e = .returned (.bool (decide (tgOf L).ok)) ∧ Below W.heap.size W w') := fun W => by
    have q := HF.out W
    rw [show (tgOf L).val = .agg #[.int .i64 (x : Int), .int .i64 (y : Int), .int .i64 (z : Int), .int .i64 (t : Int)] by rw [hT]; rfl] at q
    exact q
  generalize (Y3.setCell ⟨g2, 0, none⟩ (.int .i64 24)).drew = Z at U6 ⊢
  clear hb4 hb5 HT4 hcv hdg HF HT2 hsv hdv hx hy hz ht HX
  have r0 : Z.cell? ⟨g1, 0, none⟩ = some (.int .i64 0) := cell_h (k := 0) U6.out.hr rfl
  have r1 : Z.cell? ⟨g1, 1, none⟩ = some (.int .i64 0) := cell_h (k := 1) U6.out.hr rfl
  have r2 : Z.cell? ⟨g1, 2, none⟩ = some (.int .i64 0) := cell_h (k := 2) U6.out.hr rfl
  have r3 : Z.cell? ⟨g1, 3, none⟩ = some (.int .i64 0) := cell_h (k := 3) U6.out.hr rfl
  have rf := fz_h U6.out.hr
  have t0 := cell_h (k := 0) U6.out.ht rfl
  have t1 := cell_h (k := 1) U6.out.ht rfl
  have t2 := cell_h (k := 2) U6.out.ht rfl
  have t3 := cell_h (k := 3) U6.out.ht rfl
  dsimp only at t0 t1 t2 t3
  by_cases hsd : sv = dv
  · have hne : ((sv : Int) != (dv : Int)) = false := by rw [hsd]; simp
    have hr2 := hr.trans HRR.out
    rw [if_pos hsd] at hr2
    clear HRR hsd r0 r1 r2 r3 rf
    go_wp2_with fail
    refine (HF2.out _).mono ?_
    rintro e Z2 ⟨rfl, hB⟩
    have kr := U6.out.hr.keep hB
    have kt := U6.out.ht.keep hB
    have HB : Hid (Below w.heap.size w Z2) := Lib.hid (U6.out.below.trans (hB.mono U6.out.below.size))
    clear hB t0 t1 t2 t3 U6 HF2
    have r0 : Z2.cell? ⟨g1, 0, none⟩ = some (.int .i64 0) := cell_h (k := 0) kr rfl
    have r1 : Z2.cell? ⟨g1, 1, none⟩ = some (.int .i64 0) := cell_h (k := 1) kr rfl
    have r2 : Z2.cell? ⟨g1, 2, none⟩ = some (.int .i64 0) := cell_h (k := 2) kr rfl
    have r3 : Z2.cell? ⟨g1, 3, none⟩ = some (.int .i64 0) := cell_h (k := 3) kr rfl
    have rf := fz_h kr
    have t0 := cell_h (k := 0) kt rfl
    have t1 := cell_h (k := 1) kt rfl
    have t2 := cell_h (k := 2) kt rfl
    have t3 := cell_h (k := 3) kt rfl
    dsimp only at t0 t1 t2 t3
    clear kr kt
    by_cases hok : (tgOf L).ok
    · rw [if_pos hok, hT] at hr2
      have hd : decide (tgOf L).ok = true := decide_eq_true hok
      clear hok hT
      rw [hd]
      go_wp2_with fail
      refine bodyPost_ret (v := .tuple #[.agg #[.int .i64 (x : Int), .int .i64 (y : Int), .int .i64 (z : Int), .int .i64 (t : Int)], .int .i64 0]) (by simp [results, Tryz.f21, go_sem, r0, r1, r2, r3]) rfl ⟨by rw [hr2]; rfl, ?_⟩
      iterate 4 refine Below.setCell ?_ (by simp; omega) _
      exact HB.out
    · rw [if_neg hok] at hr2
      have hd : decide (tgOf L).ok = false := decide_eq_false hok
      clear hok hT
      rw [hd]
      go_wp2_with fail
      refine bodyPost_ret (v := .tuple #[.agg #[.int .i64 0, .int .i64 0, .int .i64 0, .int .i64 0], .int .i64 2]) (by simp [results, Tryz.f21, go_sem, r0, r1, r2, r3]) rfl ⟨by rw [hr2]; rfl, ?_⟩
      iterate 4 refine Below.setCell ?_ (by simp; omega) _
      exact HB.out
  · have hne : ((sv : Int) != (dv : Int)) = true := by simp; omega
    have hr2 := hr.trans HRR.out
    rw [if_neg hsd] at hr2
    have HB : Hid (Below w.heap.size w Z) := Lib.hid U6.out.below
    clear HRR hsd t0 t1 t2 t3 U6 HF2 hT
    go_wp2_with fail
    refine bodyPost_ret (v := .tuple #[.agg #[.int .i64 0, .int .i64 0, .int .i64 0, .int .i64 0], .int .i64 102]) (by simp [results, Tryz.f21, go_sem, r0, r1, r2, r3]) rfl ⟨by rw [hr2]; rfl, ?_⟩
    iterate 4 refine Below.setCell ?_ (by simp; omega) _
    exact HB.out
end Go.Proofs.YtmdniebedflpbaaGreatDoor
