/-
  WALKS: the iterator over the bounds that shorten a path.
-/
import Derived.Test.YtmdniebedflpbaaDoorPlR
namespace Go.Proofs.YtmdniebedflpbaaDoor
open Go.RowKit Go.Shelf

attribute [local go_sem] Oper.semAt_some

/-- The bound i as a value. -/
def bdV (f : Nat → Int) (i : Nat) : Value := .agg #[.int .i64 (f (i * 3)), .int .i64 (f (i * 3 + 1)), .int .i64 (f (i * 3 + 2))]
theorem three_new (w : World) (x y z : Value) (t : TypeId) : (w.alloc (.cells #[x, y, z] t)).cell? ⟨w.heap.size, 0, none⟩ = some x ∧ (w.alloc (.cells #[x, y, z] t)).cell? ⟨w.heap.size, 1, none⟩ = some y ∧ (w.alloc (.cells #[x, y, z] t)).cell? ⟨w.heap.size, 2, none⟩ = some z := by
  have h := World.alloc_heap_new w (.cells #[x, y, z] t)
  simp only [World.cell?, h]
  exact ⟨rfl, rfl, rfl⟩
theorem grew_drewN (w : World) (n : Nat) : w.grownBy (w.drewN n) none := ⟨rfl, rfl, rfl, Nat.le_refl _, fun _ _ _ => rfl⟩

set_option maxHeartbeats 1000000 in
theorem shorter_of (w : World) (q a : Option Addr) (n c : Nat) :
    Calls Tryd.prog 54 #[.pointer q, .slice a n c] w fun e w' => e = .returned (.func (.func 65) #[] #[.pointer (some ⟨w.heap.size + 1, 0, none⟩), .pointer (some ⟨w.heap.size, 0, none⟩)]) ∧
      w' = (w.alloc (.cells #[.pointer q] 100)).alloc (.cells #[.slice a n c] 34) := by
  go_enter Tryd.func54, Tryd.ntmps54
  go_wp2
  go_ret
  exact ⟨rfl, rfl⟩

set_option maxRecDepth 100000 in
set_option maxHeartbeats 4000000 in
theorem shorter1_of (n : Nat) (l bp bb bl : Nat) (p : Pt) (f : Nat → Int) (E len c : Nat) (a : Option Addr) (B0 : Int) (hf : BOk E len f) (hp : p.Le B0) (hB0 : B0 ≤ 1000000000000000)
    (J : List Nat → World → Prop) (W : World)
    (hJI : ∀ pre W1, J pre W1 → PtAt W1 bp 72 (p.ups f pre) ∧ W1.cell? ⟨bb, 0, none⟩ = some (.pointer (some ⟨bp, 0, none⟩)) ∧ W1.cell? ⟨bl, 0, none⟩ = some (.slice a len c) ∧ Sl W1 3 a len f)
    (hJa : AbidesFrom W.heap.size J)
    (hY : ∀ pre x W1, J pre W1 → (x < len ∧ (p.ups f pre).sh f x = true ∧ (p.ups f pre).Le 1000300000000000) → YieldAt Fence.wide (n - 1) Tryd.prog l #[.int .i64 (x : Int), bdV f x] W1 fun e W' => e = .returned (.bool true) ∧ J (pre ++ [x]) W')
    (h0 : J [] W) :
    CallsIn Fence.wide n Tryd.prog 65 #[.func (.yield l) #[] #[], .pointer (some ⟨bl, 0, none⟩), .pointer (some ⟨bb, 0, none⟩)] W fun e W' => (∃ v, e = .returned v) ∧ ∃ xs, xs = ysOf f p len ∧ J xs W' := by
  refine callsIn_of_wp Tryd.func65 rfl trivial ?_ rfl
  simp only [Tryd.ntmps65, List.size_toArray, List.length_cons, List.length_nil, Nat.reduceAdd, Nat.reduceSub, Array.replicate_succ, Array.replicate_zero, List.push_toArray, List.append_toArray, List.nil_append, List.cons_append]
  have HJI := Lib.hid hJI
  have HY := Lib.hid hY
  have HF := Lib.hid hf
  have HP := Lib.hid hp
  have hl := hf.1
  obtain ⟨_, _, hcl, _⟩ := hJI _ _ h0
  clear hJI hY hf hp
  gi_wp2
  gi_loopw [8] (fun i wr => ∃ k : Nat, k ≤ len ∧ i = .int .i64 k ∧ J (ysOf f p k) wr) (fun i _ => len - (intOf i).toNat)
  case atStart => exact ⟨0, Nat.zero_le _, rfl, h0⟩
  case round =>
    obtain ⟨k, hk, rfl, hJk⟩ := hrel
    by_cases hlt : k < len
    · obtain ⟨hP, hbb, hbl, hS⟩ := HJI.out _ _ hJk
      obtain ⟨b, o, rfl, hI⟩ := hS (by omega)
      have d0 := hI (k * 3) (by omega)
      have d1 := hI.at (k * 3) 1 (by omega)
      have d2 := hI.at (k * 3) 2 (by omega)
      clear hI hS
      have hle := ysOf_le HF.out HP.out k hk
      have hle2 := ysOf_le HF.out HP.out len (Nat.le_refl _)
      obtain ⟨e0, l0⟩ := bF_eq HF.out hlt
      obtain ⟨e1, l1⟩ := bT_eq HF.out hlt
      have hM := (HF.out.2 k hlt).2.2
      have hmF := hle (bF f k)
      have hmT := hle (bT f k)
      have HL : Hid ((p.ups f (ysOf f p k)).Le 1000300000000000) := hle.mono (by omega)
      have HYk := HY.out (ysOf f p k) k
      have hys : ysOf f p (k + 1) = if (p.ups f (ysOf f p k)).sh f k then ysOf f p k ++ [k] else ysOf f p k := rfl
      have hsh : (p.ups f (ysOf f p k)).sh f k = ((p.ups f (ysOf f p k)).kn (bF f k) && (!(p.ups f (ysOf f p k)).kn (bT f k) || decide ((p.ups f (ysOf f p k)).mo (bF f k) + f (k * 3 + 2) < (p.ups f (ysOf f p k)).mo (bT f k)))) := rfl
      have hbd : bdV f k = .agg #[.int .i64 (f (k * 3)), .int .i64 (f (k * 3 + 1)), .int .i64 (f (k * 3 + 2))] := rfl
      rw [e0] at d0 hbd
      rw [e1] at d1 hbd
      generalize f (k * 3 + 2) = M at d2 hbd hsh hM
      generalize bF f k = F at d0 hbd hsh hmF l0
      generalize bT f k = T at d1 hbd hsh hmT l1
      rw [hbd] at HYk
      clear hbd e0 e1
      have hJ4 := hJa _ wr _ none hJk (World.grownBy_alloc wr (.cells #[.int .i64 (F : Int), .int .i64 (T : Int), .int .i64 M] 62) none) (fun r e => by cases e)
      obtain ⟨hP4, hbb4, hbl4, hS4⟩ := HJI.out _ _ hJ4
      generalize p.ups f (ysOf f p k) = st at hP4 hsh hmF hmT HYk HL hys
      generalize ysOf f p k = ys at hJ4 hJk HYk hys
      obtain ⟨c0, c1, c2⟩ := three_new wr (.int .i64 (F : Int)) (.int .i64 (T : Int)) (.int .i64 M) 62
      obtain ⟨W4, hW4⟩ : ∃ W4, wr.alloc (.cells #[.int .i64 (F : Int), .int .i64 (T : Int), .int .i64 M] 62) = W4 := ⟨_, rfl⟩
      rw [hW4] at c0 c1 c2
      rw [hW4] at hJ4 hP4 hbb4 hbl4
      have HW4 := Lib.hid hW4
      have kF := hP4.kn (k := F) (by omega)
      have kT := hP4.kn (k := T) (by omega)
      have mF := hP4.mo (k := F) (by omega)
      have mT := hP4.mo (k := T) (by omega)
      have hF64 : (F : Int) < 64 := by omega
      have hT64 : (T : Int) < 64 := by omega
      have hw : IntKind.i64.wrap (st.mo F + M) = st.mo F + M := IntWalk.i64_in _ (by omega)
      have HJ4 : Hid (∀ q, J ys (W4.drewN q)) := fun q => hJa _ W4 _ none hJ4 (grew_drewN W4 q) (fun r e => by cases e)
      clear hW4 hP4 hP hbb hcl hmF hmT hM hle hle2 hJ4 hJk hS4
      generalize st.mo F = mf at mF hw hsh
      generalize st.mo T = mt at mT hsh
      cases hkF : st.kn F with
      | false =>
        rw [hkF] at kF hsh
        gi_wp2
        rw [HW4.out]
        refine wpIn_wide.2 ?_
        go_quiet (fail)
        gi_wp2
        go_roundw
        case rel => exact ⟨k + 1, by omega, by simp, by rw [hys, hsh]; exact HJ4.out _⟩
        case measure => simp [intOf]; omega
      | true =>
        rw [hkF] at kF hsh
        cases hkT : st.kn T with
        | false =>
          rw [hkT] at kT hsh
          gi_wp2
          rw [HW4.out]
          refine wpIn_wide.2 ?_
          go_quiet (fail)
          obtain ⟨fn, tmps, assign, body, hy, hR⟩ := HYk (W4.drewN nq) (HJ4.out nq) ⟨hlt, by rw [hsh]; rfl, HL.out⟩
          gi_wp2
          refine ⟨fun h => absurd h (by decide), hR.mono ?_⟩
          rintro e W3 ⟨rfl, hJ3⟩
          gi_wp2
          go_roundw
          case rel => exact ⟨k + 1, by omega, by simp, by rw [hys, hsh]; exact hJ3⟩
          case measure => simp [intOf]; omega
        | true =>
          rw [hkT] at kT hsh
          by_cases hlt2 : mf + M < mt
          · have cb : decide (mf + M ≥ mt) = false := by simp; omega
            gi_wp2
            rw [HW4.out]
            refine wpIn_wide.2 ?_
            go_quiet (fail)
            obtain ⟨fn, tmps, assign, body, hy, hR⟩ := HYk (W4.drewN nq) (HJ4.out nq) ⟨hlt, by rw [hsh]; simp [hlt2], HL.out⟩
            gi_wp2
            refine ⟨fun h => absurd h (by decide), hR.mono ?_⟩
            rintro e W3 ⟨rfl, hJ3⟩
            gi_wp2
            go_roundw
            case rel => exact ⟨k + 1, by omega, by simp, by rw [hys, hsh]; simpa [hlt2] using hJ3⟩
            case measure => simp [intOf]; omega
          · have cb : decide (mf + M ≥ mt) = true := by simp; omega
            gi_wp2
            rw [HW4.out]
            refine wpIn_wide.2 ?_
            go_quiet (fail)
            gi_wp2
            go_roundw
            case rel => exact ⟨k + 1, by omega, by simp, by rw [hys, hsh, if_neg (by simpa using hlt2)]; exact HJ4.out _⟩
            case measure => simp [intOf]; omega
    · obtain rfl : k = len := by omega
      gi_wp2
      go_end0
      exact ⟨⟨_, rfl⟩, _, rfl, hJk⟩
end Go.Proofs.YtmdniebedflpbaaDoor
