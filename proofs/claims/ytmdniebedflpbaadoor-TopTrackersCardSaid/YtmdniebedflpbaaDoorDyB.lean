/-
  WALKS AND WORDS: Libs Only Laws Limbs1 Limbs2 of my texts, one behind the other.
-/
import Derived.Test.YtmdniebedflpbaaDoorShelfX
import Derived.Test.YtmdniebedflpbaaDoorDyA
import Derived.OwnWalk
import Derived.Laws.CopyOwn
-- Libs: THE LIBRARY's CONTRACTS, in this program's numbers.
namespace Go.Proofs.YtmdniebedflpbaaDoor.Dy
open Go.RowKit

theorem mul64 (x y : Nat) (hx : x < base) (hy : y < base) (w : World) :
    Calls Tryd.prog 72 #[.int .u64 x, .int .u64 y] w fun e w' => e = .returned (.tuple #[.int .u64 ((x * y / base : Nat) : Int), .int .u64 ((x * y % base : Nat) : Int)]) ∧ w' = w :=
  Any.bits_Mul64 Tryd.lays264 x y hx hy w
theorem lz64 (x : Nat) (w : World) (h : x < base) :
    Calls Tryd.prog 70 #[.int .u64 (x : Int)] w fun e w' => e = .returned (.int .i64 (64 - (Lib.bitLen x : Int))) ∧ w' = w :=
  Any.bits_LeadingZeros64 Tryd.lays134 x w (by omega) (by unfold base at h; omega)
theorem add64 (x y c : Nat) (hc : c ≤ 1) (w : World) :
    (callFunc 56 #[.int .u64 x, .int .u64 y, .int .u64 c]).run Tryd.prog w =
      .ok (.value (.tuple #[.int .u64 (((x + y + c) % base : Nat) : Int), .int .u64 (((x + y + c) / base : Nat) : Int)])) w :=
  Any7.bits_Add64 Tryd.lays25 x y c hc w
theorem sub64 (x y b : Nat) (hb : b ≤ 1) (w : World) :
    (callFunc 46 #[.int .u64 x, .int .u64 y, .int .u64 b]).run Tryd.prog w =
      .ok (.value (.tuple #[.int .u64 (((x + base - y - b) % base : Nat) : Int), .int .u64 ((if x < y + b then 1 else 0 : Nat) : Int)])) w :=
  Any7.bits_Sub64 Tryd.lays26 x y b hb w
/-- math/bits' table lies in its variable. -/
def Tab (w : World) : Prop := TabAt 0 Lib.deBruijn64tab w
theorem Tab.keep {w w' : World} (h : Tab w) (hb : Below w.heap.size w w') : Tab w' :=
  fun j hj => (hb.cell (World.block_lt_of_cell? w _ (h j hj))).trans (h j hj)
theorem tz64 (x : Nat) (hx : x < base) (w : World) (hT : Tab w) :
    Calls Tryd.prog 55 #[.int .u64 x] w fun e w' => e = .returned (.int .i64 (Lib.ctz 64 x)) ∧ w' = w :=
  Any7.bits_TrailingZeros64 Tryd.lays29 x hx w (fun _ => hT)
end Go.Proofs.YtmdniebedflpbaaDoor.Dy
-- Only: WORDS: a call that writes into one stretch of one block, and may make new memory.
namespace Go.Proofs.YtmdniebedflpbaaDoor.Dy
open Go.RowKit

/-- Nothing that was there has turned but the n cells from o on in block b. -/
structure Only (b o n : Nat) (w w' : World) : Prop where
  os : w'.os = w.os
  tape : w'.tape = w.tape
  output : w'.output = w.output
  size : w.heap.size ≤ w'.heap.size
  block : ∀ k, k ≠ b → k < w.heap.size → w'.heap[k]? = w.heap[k]?
  cell : ∀ i, i < o ∨ o + n ≤ i → w'.cell? ⟨b, i, none⟩ = w.cell? ⟨b, i, none⟩
  frozen : ∀ i, w'.frozen? ⟨b, i, none⟩ = w.frozen? ⟨b, i, none⟩

theorem Only.refl (b o n : Nat) (w : World) : Only b o n w w := ⟨rfl, rfl, rfl, Nat.le_refl _, fun _ _ _ => rfl, fun _ _ => rfl, fun _ => rfl⟩
theorem Only.trans {b o n : Nat} {w w1 w2 : World} (h : Only b o n w w1) (k : Only b o n w1 w2) : Only b o n w w2 :=
  ⟨k.os.trans h.os, k.tape.trans h.tape, k.output.trans h.output, Nat.le_trans h.size k.size, fun i hi hs => (k.block i hi (Nat.lt_of_lt_of_le hs h.size)).trans (h.block i hi hs), fun i hi => (k.cell i hi).trans (h.cell i hi), fun i => (k.frozen i).trans (h.frozen i)⟩
theorem Only.wide {b o n o' n' : Nat} {w w' : World} (h : Only b o n w w') (h1 : o' ≤ o) (h2 : o + n ≤ o' + n') : Only b o' n' w w' :=
  ⟨h.os, h.tape, h.output, h.size, h.block, fun i hi => h.cell i (by omega), h.frozen⟩
theorem Only.below {b o n B : Nat} {w w' : World} (h : Only b o n w w') (hB : B ≤ b) (hw : B ≤ w.heap.size) : Below B w w' :=
  ⟨h.os, h.tape, h.output, h.size, fun k hk => h.block k (by omega) (by omega)⟩
theorem Only.of_below {b o n : Nat} {w w' : World} (h : Below w.heap.size w w') (hb : b < w.heap.size) : Only b o n w w' :=
  ⟨h.os, h.tape, h.output, h.size, fun k _ hk => h.block k hk, fun _ _ => h.cell hb, fun _ => h.frozen hb⟩
theorem Only.of_quiet {b o n : Nat} {w w' : World} (h : Quiet w w') : Only b o n w w' := by
  obtain ⟨q, rfl⟩ := h
  exact ⟨rfl, rfl, rfl, Nat.le_refl _, fun _ _ _ => rfl, fun _ _ => rfl, fun _ => rfl⟩
theorem Only.drew {b o n : Nat} {w w' : World} (h : Only b o n w w') : Only b o n w w'.drew := h.trans (Only.of_quiet ⟨1, rfl⟩)
theorem Only.drewN {b o n : Nat} {w w' : World} (h : Only b o n w w') (q : Nat) : Only b o n w (w'.drewN q) := h.trans (Only.of_quiet ⟨q, rfl⟩)
theorem Only.set {b o n : Nat} {w w' : World} (h : Only b o n w w') {i : Nat} (h1 : o ≤ i) (h2 : i < o + n) (x : Value) : Only b o n w (w'.setCell ⟨b, i, none⟩ x) :=
  h.trans ⟨rfl, rfl, rfl, by simp [World.setCell], fun k hk _ => Below.heap_setCell _ _ _ _ hk, fun j hj => World.cell?_setCell_other _ _ _ _ (by intro e; simp only [Addr.mk.injEq] at e; omega), fun j => by simp⟩
theorem Only.row {b o n : Nat} {w w' : World} (h : Only b o n w w') {b2 o2 n2 : Nat} {f : Nat → Nat} (hr : Row w b2 o2 n2 f) (hne : b2 ≠ b) : Row w' b2 o2 n2 f :=
  fun i hi => (World.cell?_of_block (h.block b2 hne (hr.lt (by omega)))).trans (hr i hi)
theorem Only.free {b o n : Nat} {w w' : World} (h : Only b o n w w') {b2 o2 n2 : Nat} {f : Nat → Nat} (hr : Row w b2 o2 n2 f) (hf : Free w b2 o2 n2) (hne : b2 ≠ b) : Free w' b2 o2 n2 :=
  fun i hi => (World.frozen?_of_block (h.block b2 hne (hr.lt (by omega)))).trans (hf i hi)
theorem Only.freeOwn {b o n : Nat} {w w' : World} (h : Only b o n w w') {o2 n2 : Nat} (hf : Free w b o2 n2) : Free w' b o2 n2 :=
  fun i hi => (h.frozen _).trans (hf i hi)
theorem Only.nt {b o n : Nat} {w w' : World} (h : Only b o n w w') {v : Value} {m : Nat} (hn : Nt w v m) (hne : v.ownBlock ≠ some b) : Nt w' v m := by
  rcases hn with hn | ⟨b2, o2, n2, cap, f, rfl, hn, hc, hr, hs, hl, hm⟩
  · exact .inl hn
  · exact .inr ⟨b2, o2, n2, cap, f, rfl, hn, hc, h.row hr (by simpa [Value.ownBlock] using hne), hs, hl, hm⟩
theorem Only.tab {b o n : Nat} {w w' : World} (h : Only b o n w w') (ht : Tab w) (hb : 0 ≠ b) : Tab w' :=
  fun j hj => (World.cell?_of_block (h.block 0 hb (World.block_lt_of_cell? w _ (ht j hj)))).trans (ht j hj)

/-- One digit written. -/
def put (f : Nat → Nat) (k x : Nat) : Nat → Nat := fun i => if i = k then x else f i
theorem put_same (f : Nat → Nat) (k x : Nat) : put f k x k = x := by simp [put]
theorem put_other (f : Nat → Nat) (k x i : Nat) (h : i ≠ k) : put f k x i = f i := by simp [put, h]
theorem val_put_ge (f : Nat → Nat) (k x : Nat) {n : Nat} (h : n ≤ k) : val (put f k x) n = val f n :=
  val_congr fun i hi => put_other f k x i (by omega)
theorem Row.set {w : World} {b o n : Nat} {f : Nat → Nat} (h : Row w b o n f) {k : Nat} (hk : k < n) (x : Nat) : Row (w.setCell ⟨b, o + k, none⟩ (.int .u64 (x : Int))) b o n (put f k x) := by
  intro i hi
  by_cases e : i = k
  · subst e
    rw [World.cell?_setCell_same _ _ _ (h i hi), put_same]
  · rw [World.cell?_setCell_other _ _ _ _ (by intro h; simp only [Addr.mk.injEq] at h; omega), h i hi, put_other _ _ _ _ e]
theorem Small.put {f : Nat → Nat} {n : Nat} (h : Small f n) {k x : Nat} (hx : x < base) : Small (put f k x) n := by
  intro i hi
  by_cases e : i = k
  · subst e; rw [put_same]; exact hx
  · rw [put_other _ _ _ _ e]; exact h i hi
end Go.Proofs.YtmdniebedflpbaaDoor.Dy
-- Laws: LAWS OF THE WALK: make and copy of digits, in the words of rows.
namespace Go.Proofs.YtmdniebedflpbaaDoor.Dy
open Go.RowKit

theorem infoU : (Tryd.prog.info? 56).map (fun i => (i.zero, i.size, i.bytes)) = some (some (.int .u64 0), 1, 8) := by kernel_rfl
theorem infoU1 : (Tryd.prog.info? 56).map (·.size) = some 1 := by kernel_rfl

/-- Block b is a plain row of n cells of digits. -/
def Whole (w : World) (b n : Nat) : Prop := ∃ cur : Array Value, w.heap[b]? = some (.cells cur 56 (0, 0)) ∧ cur.size = n
theorem Whole.lt {w : World} {b n : Nat} (h : Whole w b n) : b < w.heap.size := by
  obtain ⟨cur, h, _⟩ := h; exact (Array.getElem?_eq_some_iff.1 h).1
theorem Whole.keep {w w' : World} {b n B : Nat} (h : Whole w b n) (hb : Below B w w') (hB : b < B) : Whole w' b n := by
  obtain ⟨cur, h, hs⟩ := h; exact ⟨cur, (hb.block b hB).trans h, hs⟩
theorem frozen_row {w : World} {b : Nat} {cur : Array Value} {t : TypeId} (h : w.heap[b]? = some (.cells cur t (0, 0))) (i : Nat) : w.frozen? ⟨b, i, none⟩ = false := by
  simp [World.frozen?, h]
theorem Whole.free {w : World} {b n : Nat} (h : Whole w b n) (o m : Nat) : Free w b o m := by
  obtain ⟨cur, h, _⟩ := h; exact fun i _ => frozen_row h _

/-- 'make(limbs, n)'. -/
theorem wp_make (w : World) {ops : Array Oper} {rest : List Oper} {o : Oper} {a : Act} {Q : Exit → Act → World → Prop}
    (hg : o.guard = none) (l c : Operand) (hop : o.op = Op.makeSlice 49 l c) (L C : Int) (n : Nat)
    (hl : a.eval l = .int .i64 L) (hc : a.eval c = .int .i64 C) (hL : L = (n : Int)) (hC : C = (n : Int)) (hn : n ≤ 2000000000000)
    (hK : ∀ w', Whole w' w.heap.size n → Row w' w.heap.size 0 n (fun _ => 0) → Below w.heap.size w w' → wpList Tryd.prog ops Q rest (a.put o.dst (.slice (some ⟨w.heap.size, 0, none⟩) n n)) w') :
    wpList Tryd.prog ops Q (o :: rest) a w := by
  obtain ⟨i, hi, hz0, hz1, hz2⟩ := info_parts infoU
  refine wpList_make_full w hg l c 49 hop w.heap.size 56 i (.int .u64 0) 1 Tryd.underlying49 hi hz0 hz1 .i64 .i64 L C n hl hc hL hC (by rw [hz2]; omega) (by unfold maxLen; omega) (Nat.le_refl _) ?_
  intro w' hown hgrow
  obtain ⟨hlen, h⟩ := hown
  rcases h with ⟨h, _⟩ | ⟨g, cap, cur, hv, _, hh, hcap, _, hsz, htake⟩
  · cases h
  · simp only [Value.slice.injEq, Option.some.injEq, Addr.mk.injEq] at hv
    obtain ⟨⟨rfl, _⟩, _, rfl⟩ := hv
    have hrow : Row w' w.heap.size 0 n (fun _ => 0) := by
      intro j hj
      rw [Nat.zero_add, cell_of_row w' _ j cur _ (0, 0) hh]
      have e1 : cur.toList[j]? = ((madeCells (Value.int .u64 0).cells (n * 1)).toList)[j]? := by
        rw [← htake, List.getElem?_take, if_pos (by omega)]
      have e2 : ((madeCells (Value.int .u64 0).cells (n * 1)).toList)[j]? = some (.int .u64 0) := by
        simp [madeCells, Value.cells, hj, Nat.mod_one]
      have e3 := e1.trans e2
      simpa using e3
    refine hK w' ⟨cur, hh, by omega⟩ hrow ?_
    exact (Below.refl _ _).grown hgrow (Nat.le_refl _) (fun _ h => by cases h)

/-- 'copy(out, a)', all of a. -/
theorem wp_copy (w : World) {ops : Array Oper} {rest : List Oper} {o : Oper} {a : Act} {Q : Exit → Act → World → Prop}
    (hgd : o.guard = none) (d s : Operand) (ho : o.op = .call { callee := .builtin .copy, args := #[d, s], argTypes := #[49, 49] })
    (g m dLen dCap sLen sCap : Nat) (sp : Option Addr) (f : Nat → Nat) (hd : a.eval d = .slice (some ⟨g, 0, none⟩) dLen dCap) (hs : a.eval s = .slice sp sLen sCap)
    (hw : Whole w g m) (hle : sLen ≤ dLen) (hm : dLen ≤ m) (hsrc : 0 < sLen → ∃ b2 o2, sp = some ⟨b2, o2, none⟩ ∧ Row w b2 o2 sLen f)
    (hK : ∀ w', Row w' g 0 sLen f → Only g 0 sLen w w' → Whole w' g m → wpList Tryd.prog ops Q rest (a.put o.dst (goInt sLen)) w') :
    wpList Tryd.prog ops Q (o :: rest) a w := by
  have hw0 := hw
  obtain ⟨cur, hh, hsz⟩ := hw
  have hmin : Nat.min sLen dLen = sLen := Nat.min_eq_left hle
  by_cases h0 : sLen = 0
  · subst h0
    refine wpList_copy_nothing hgd d s 49 49 ho 56 Tryd.underlying49 infoU1 _ _ _ _ _ _ hd hs (by simp) ?_
    exact hK w (fun i hi => by omega) (Only.refl _ _ _ _) hw0
  · obtain ⟨b2, o2, rfl, hrow⟩ := hsrc (by omega)
    let cs : List Value := (List.range sLen).map fun i => Value.int .u64 ((f i : Nat) : Int)
    have hcl : cs.length = sLen := by simp [cs]
    have hget : ∀ j, j < sLen → cs[j]? = some (.int .u64 ((f j : Nat) : Int)) := fun j hj => by simp [cs, hj]
    refine wpList_copy_own hgd d s 49 49 ho 56 Tryd.underlying49 infoU1 g 0 dLen dCap ⟨b2, o2, none⟩ sLen sCap hd hs cur 56 hh cs (by rw [hcl, hmin]) ?_ (by rw [hcl]; omega) ?_ ?_
    · intro j v hv
      have hj : j < sLen := by have := (List.getElem?_eq_some_iff.1 hv).1; omega
      rw [hget j hj] at hv
      rw [Addr.add_lit, hrow j hj]; exact hv
    · intro v hv
      obtain ⟨i, _, rfl⟩ := List.mem_map.1 hv
      rfl
    · rw [hcl]
      try rw [Nat.zero_add]
      have hh' := setRow_heap w g cur (cur.toList.take 0 ++ (cs ++ cur.toList.drop sLen)).toArray 56 (0, 0) hh
      have hsz' : (cur.toList.take 0 ++ (cs ++ cur.toList.drop sLen)).toArray.size = m := by simp [hcl]; omega
      have hcell : ∀ i, (w.setRow g (cur.toList.take 0 ++ (cs ++ cur.toList.drop sLen)).toArray).cell? ⟨g, i, none⟩ = if i < sLen then some (.int .u64 ((f i : Nat) : Int)) else w.cell? ⟨g, i, none⟩ := by
        intro i
        rw [cell_of_row _ g i _ _ (0, 0) hh', cell_of_row _ g i _ _ (0, 0) hh]
        by_cases hi : i < sLen
        · rw [if_pos hi]
          have : (cs ++ cur.toList.drop sLen)[i]? = cs[i]? := List.getElem?_append_left (by omega)
          simpa [hget i hi] using this
        · rw [if_neg hi]
          have : (cs ++ cur.toList.drop sLen)[i]? = (cur.toList.drop sLen)[i - sLen]? := by rw [List.getElem?_append_right (by omega), hcl]
          have e : sLen + (i - sLen) = i := by omega
          simpa [List.getElem?_drop, e] using this
      refine hK _ (fun i hi => by rw [Nat.zero_add, hcell, if_pos hi]) ⟨rfl, rfl, rfl, by simp [World.setRow], fun k hk _ => setRow_other w g k _ (by omega), fun i hi => by rw [hcell, if_neg (by omega)], fun i => ?_⟩ ⟨_, hh', hsz'⟩
      rw [frozen_row hh', frozen_row hh]

theorem sizeU (w : World) : (Go.sizeOf 56).run Tryd.prog w = .ok 1 w := by kernel_rfl

/-- slices.Clone of digits: a row of the call's own. -/
theorem clone_row (w : World) (b o n c : Nat) (f : Nat → Nat) (hn : n ≤ 2000000000000) (hr : Row w b o n f) :
    Calls Tryd.prog 45 #[.slice (some ⟨b, o, none⟩) n c] w fun e w' => ∃ g cap, e = .returned (.slice (some ⟨g, 0, none⟩) n cap) ∧ w.heap.size ≤ g ∧ n ≤ cap ∧ Whole w' g cap ∧ Row w' g 0 n f ∧ Below w.heap.size w w' := by
  obtain ⟨i, hi, hz0, hz1, hz2⟩ := info_parts infoU
  let cs : List Value := (List.range n).map fun i => Value.int .u64 ((f i : Nat) : Int)
  have hcl : cs.length = n := by simp [cs]
  have hget : ∀ j, j < n → cs[j]? = some (.int .u64 ((f j : Nat) : Int)) := fun j hj => by simp [cs, hj]
  refine (AnyE.slices_Clone Tryd.cloneLimbs i (.int .u64 0) 1 8 hi hz0 hz1 hz2 rfl (by omega) sizeU b o n c cs w (by omega) (by unfold maxLen; omega) (by omega) ?_ ?_).mono ?_
  · intro j u hu
    have hj : j < n := by have := (List.getElem?_eq_some_iff.1 hu).1; omega
    rw [hget j hj] at hu
    rw [hr j hj]; exact hu
  · intro v hv
    obtain ⟨i, _, rfl⟩ := List.mem_map.1 hv
    rfl
  · rintro e w' ⟨v, rfl, hown, hne, hb⟩
    obtain ⟨_, h⟩ := hown
    rcases h with ⟨h, _⟩ | ⟨g, cap, cur, rfl, hg, hh, hcap, _, hsz, htake⟩
    · exact absurd h hne
    · refine ⟨g, cap, rfl, hg, hcap, ⟨cur, hh, by omega⟩, ?_, hb⟩
      intro j hj
      have e1 : cur.toList[j]? = cs[j]? := by rw [← htake, List.getElem?_take, if_pos (by omega)]
      have e2 := e1.trans (hget j hj)
      rw [Nat.zero_add, cell_of_row w' _ j cur _ (0, 0) hh]
      simpa using e2
theorem clone_nil (w : World) (n c : Nat) :
    Calls Tryd.prog 45 #[.slice none n c] w fun e w' => e = .returned (.slice none 0 0) ∧ w' = w :=
  AnyE.slices_Clone_nil Tryd.cloneLimbs n c w
end Go.Proofs.YtmdniebedflpbaaDoor.Dy
-- Limbs1: WALKS: trimmed, natural: no call of the library.
namespace Go.Proofs.YtmdniebedflpbaaDoor.Dy
open Go.RowKit

set_option maxHeartbeats 400000 in
theorem trimmed_row (w : World) (b o n cap : Nat) (f : Nat → Nat) (hn : n ≤ 1000000000000) (hr : Row w b o n f) (hc : n ≤ cap) :
    Calls Tryd.prog 43 #[.slice (some ⟨b, o, none⟩) n cap] w fun e w' => (∃ k, k ≤ n ∧ (k = 0 ∨ f (k - 1) ≠ 0) ∧ (∀ i, k ≤ i → i < n → f i = 0) ∧ e = .returned (if k = 0 then .slice none 0 0 else .slice (some ⟨b, o, none⟩) k cap)) ∧ w' = w := by
  go_enter Tryd.func43, Tryd.ntmps43
  go_wp2
  go_loop [3] (fun v => ∃ k : Nat, k ≤ n ∧ v = .int .i64 k ∧ (∀ i, k ≤ i → i < n → f i = 0)) (fun v => (intOf v).toNat)
  case atStart => exact ⟨n, Nat.le_refl _, rfl, fun i h1 h2 => by omega⟩
  case round =>
    obtain ⟨k, hk, rfl, hz⟩ := hrel
    by_cases h0 : k = 0
    · subst h0
      go_wp2
      go_ret
      exact ⟨⟨0, by omega, .inl rfl, hz, rfl⟩, rfl⟩
    · have hpos : 0 < k := by omega
      have hcell := hr (k - 1) (by omega)
      by_cases hf : f (k - 1) = 0
      · rw [hf] at hcell
        go_wp2
        go_round
        case rel => exact ⟨k - 1, by omega, by go_num, fun i h1 h2 => by by_cases e : i = k - 1; (subst e; exact hf); exact hz i (by omega) h2⟩
        case measure => simp [intOf]; omega
      · have hff : ((f (k - 1) : Nat) : Int) ≠ 0 := by omega
        have hfb : (((f (k - 1) : Nat) : Int) == 0) = false := by simpa using hf
        go_wp2
        go_ret
        refine ⟨⟨k, by omega, .inr hf, hz, by rw [if_neg h0]; rfl⟩, rfl⟩

/-- A row without the zeros at its end: a slice that holds its number. -/
theorem trimmed_nt (w : World) (b o n cap : Nat) (f : Nat → Nat) (hn : n ≤ 1000000000000) (hr : Row w b o n f) (hc : n ≤ cap) (hs : Small f n) :
    Calls Tryd.prog 43 #[.slice (some ⟨b, o, none⟩) n cap] w fun e w' => (∃ v, e = .returned v ∧ Nt w v (val f n)) ∧ w' = w := by
  refine (trimmed_row w b o n cap f hn hr hc).mono ?_
  rintro e w' ⟨⟨k, hk, hk0, hz, rfl⟩, rfl⟩
  refine ⟨⟨_, rfl, ?_⟩, rfl⟩
  have hv := val_zeros hk hz
  by_cases h0 : k = 0
  · rw [if_pos h0]
    subst h0
    exact .inl ⟨rfl, hv⟩
  · rw [if_neg h0]
    rcases hk0 with h | h
    · exact absurd h h0
    · exact .inr ⟨b, o, k, cap, f, rfl, by omega, by omega, fun i hi => hr i (by omega), fun i hi => hs i (by omega), h, hv.symm⟩

set_option maxHeartbeats 400000 in
theorem trimmed_nil (w : World) (p : Option Addr) (c : Nat) :
    Calls Tryd.prog 43 #[.slice p 0 c] w fun e w' => e = .returned (.slice none 0 0) ∧ w' = w := by
  go_enter Tryd.func43, Tryd.ntmps43
  go_wp2
  go_loop [3] (fun v => v = .int .i64 0) (fun v => (intOf v).toNat)
  case atStart => rfl
  case round =>
    obtain rfl := hrel
    go_wp2
    go_ret
    exact ⟨rfl, rfl⟩

/-- A new row of one digit. -/
theorem row_one (w : World) (x : Nat) : Row (w.alloc (.cells #[.int .u64 (x : Int)] 56)) w.heap.size 0 1 (fun _ => x) := by
  intro i hi
  obtain rfl : i = 0 := by omega
  go_simp

set_option maxHeartbeats 400000 in
theorem natural_nt (w : World) (x : Nat) (hx : x < base) :
    Calls Tryd.prog 34 #[.int .u64 (x : Int)] w (Ret w fun w' v => Nt w' v x) := by
  have H := Lib.hid hx
  clear hx
  go_enter Tryd.func34, Tryd.ntmps34
  go_wp2_with fail
  refine (trimmed_nt _ _ 0 1 1 (fun _ => x) (by omega) (row_one w x) (by omega) (fun i _ => H.out)).mono ?_
  rintro e w' ⟨⟨v, rfl, hv⟩, rfl⟩
  have hval : val (fun _ => x) 1 = x := by simp [val]
  rw [hval] at hv
  go_wp2
  go_ret
  exact ⟨_, rfl, hv, (Below.refl _ _).alloc (Nat.le_refl _) _⟩
end Go.Proofs.YtmdniebedflpbaaDoor.Dy
-- Limbs2: WALKS: compare, word, bit.
namespace Go.Proofs.YtmdniebedflpbaaDoor.Dy
open Go.RowKit

/-- The sign of the difference. -/
def cmpN (a b : Nat) : Int := if a < b then -1 else if b < a then 1 else 0

/-- A number with fewer digits is less. -/
theorem val_lt_of_len {f g : Nat → Nat} {n m : Nat} (h : n < m) (hf : Small f n) (hg : g (m - 1) ≠ 0) : val f n < val g m := by
  have h1 := val_lt hf
  have h2 := val_ge (n := m) (by omega) hg
  have h3 : base ^ n ≤ base ^ (m - 1) := Nat.pow_le_pow_right base_pos (by omega)
  omega

/-- Equal digits above, and a lesser one: less. -/
theorem val_lt_at {f g : Nat → Nat} {n k : Nat} (hk : k < n) (hf : Small f n) (he : ∀ i, k < i → i < n → f i = g i) (hlt : f k < g k) : val f n < val g n := by
  obtain ⟨m, rfl⟩ : ∃ m, n = (k + 1) + m := ⟨n - (k + 1), by omega⟩
  rw [val_split f (k + 1) m, val_split g (k + 1) m]
  have h1 : val (fun i => f (k + 1 + i)) m = val (fun i => g (k + 1 + i)) m := val_congr (fun i hi => he _ (by omega) (by omega))
  rw [h1]
  have h2 : val f k < base ^ k := val_lt (fun i hi => hf i (by omega))
  have h3 : (f k + 1) * base ^ k ≤ g k * base ^ k := Nat.mul_le_mul_right _ hlt
  rw [Nat.add_mul, Nat.one_mul] at h3
  simp only [val]
  omega

set_option maxHeartbeats 800000 in
theorem compare_rows (w : World) (b1 o1 c1 b2 o2 c2 n : Nat) (f g : Nat → Nat) (hn : n ≤ 1000000000000) (hr1 : Row w b1 o1 n f) (hr2 : Row w b2 o2 n g) (hf : Small f n) (hg : Small g n) :
    Calls Tryd.prog 31 #[.slice (some ⟨b1, o1, none⟩) n c1, .slice (some ⟨b2, o2, none⟩) n c2] w fun e w' => e = .returned (.int .i64 (cmpN (val f n) (val g n))) ∧ Quiet w w' := by
  go_enter Tryd.func31, Tryd.ntmps31
  go_wp2
  go_loopw [19] (fun v wr => ∃ k : Nat, k ≤ n ∧ v = .int .i64 k ∧ (∀ i, n - k ≤ i → i < n → f i = g i) ∧ Quiet w wr) (fun v _ => n - (intOf v).toNat)
  case atStart => exact ⟨0, by omega, rfl, fun i h1 h2 => by omega, Quiet.refl _⟩
  case round =>
    obtain ⟨k, hk, rfl, he, q, rfl⟩ := hrel
    by_cases hlt : k < n
    · have hc1 := hr1 (n - 1 - k) (by omega)
      have hc2 := hr2 (n - 1 - k) (by omega)
      have hi0 : (0 : Int) ≤ (n : Int) - 1 - k := by omega
      have hi1 : (n : Int) - 1 - k < n := by omega
      have hi2 : ((n : Int) - 1 - k).toNat = n - 1 - k := by omega
      by_cases h1 : f (n - 1 - k) < g (n - 1 - k)
      · have HR : Hid (cmpN (val f n) (val g n) = -1) := Lib.hid (by
          have := val_lt_at (n := n) (k := n - 1 - k) (by omega) hf (fun i h1 h2 => he i (by omega) h2) h1
          unfold cmpN; rw [if_pos this])
        clear he
        go_wp2
        go_quiet (fail)
        go_wp2
        go_ret
        exact ⟨by rw [HR.out]; rfl, by repeat (first | exact Quiet.refl _ | refine Quiet.drewN ?_ _)⟩
      · by_cases h2 : g (n - 1 - k) < f (n - 1 - k)
        · have HR : Hid (cmpN (val f n) (val g n) = 1) := Lib.hid (by
            have := val_lt_at (n := n) (k := n - 1 - k) (by omega) hg (fun i h1 h2 => (he i (by omega) h2).symm) h2
            unfold cmpN; rw [if_neg (by omega), if_pos this])
          clear he
          go_wp2
          go_quiet (fail)
          go_wp2
          go_quiet (fail)
          go_wp2
          go_ret
          exact ⟨by rw [HR.out]; rfl, by repeat (first | exact Quiet.refl _ | refine Quiet.drewN ?_ _)⟩
        · have HE := Lib.hid he
          clear he
          go_wp2
          go_quiet (fail)
          go_wp2
          go_quiet (fail)
          go_wp2
          go_roundw
          case rel => exact ⟨k + 1, by omega, by go_num, fun i h3 h4 => by by_cases e : i = n - 1 - k; (subst e; omega); exact HE.out i (by omega) h4, by repeat (first | exact Quiet.refl _ | refine Quiet.drewN ?_ _)⟩
          case measure => simp [intOf]; omega
    · have HR : Hid (cmpN (val f n) (val g n) = 0) := Lib.hid (by
        have : val f n = val g n := val_congr (fun i hi => he i (by omega) hi)
        unfold cmpN; rw [this, if_neg (by omega), if_neg (by omega)])
      go_wp2
      go_ret
      exact ⟨by rw [HR.out]; rfl, ⟨_, rfl⟩⟩

set_option maxHeartbeats 400000 in
theorem compare_lens (w : World) (p1 p2 : Option Addr) (n1 c1 n2 c2 : Nat) (h : n1 ≠ n2) :
    Calls Tryd.prog 31 #[.slice p1 n1 c1, .slice p2 n2 c2] w fun e w' => e = .returned (.int .i64 (if n1 < n2 then -1 else 1)) ∧ w' = w := by
  have hb : (((n1 : Nat) : Int) != n2) = true := by rw [bne_iff_ne]; omega
  by_cases hlt : n1 < n2
  · rw [if_pos hlt]
    go_enter Tryd.func31, Tryd.ntmps31
    go_wp2
    go_ret
    exact ⟨rfl, rfl⟩
  · rw [if_neg hlt]
    go_enter Tryd.func31, Tryd.ntmps31
    go_wp2
    go_ret
    exact ⟨rfl, rfl⟩

set_option maxHeartbeats 400000 in
theorem compare_nils (w : World) (c1 c2 : Nat) :
    Calls Tryd.prog 31 #[.slice none 0 c1, .slice none 0 c2] w fun e w' => e = .returned (.int .i64 0) ∧ Quiet w w' := by
  go_enter Tryd.func31, Tryd.ntmps31
  go_wp2
  go_loopw [19] (fun v wr => v = .int .i64 0 ∧ Quiet w wr) (fun v _ => 0 - (intOf v).toNat)
  case atStart => exact ⟨rfl, Quiet.refl _⟩
  case round =>
    obtain ⟨rfl, q⟩ := hrel
    go_wp2
    go_ret
    exact ⟨rfl, q⟩

/-- How many digits: a bound on the number. -/
def Len (m L : Nat) : Prop := m < base ^ L

/-- The digits of a number in memory, nil or not. -/
theorem Nt.digits {w : World} {v : Value} {m L : Nat} (h : Nt w v m) (l : Len m L) :
    ∃ p n cap f, v = .slice p n cap ∧ n ≤ L ∧ (0 < n → ∃ b o, p = some ⟨b, o, none⟩ ∧ Row w b o n f) ∧ Small f n ∧ val f n = m := by
  rcases h with ⟨rfl, rfl⟩ | ⟨b, o, n, cap, f, rfl, hn, hc, hr, hs, hl, rfl⟩
  · exact ⟨none, 0, 0, fun _ => 0, rfl, by omega, fun h => by omega, fun i hi => by omega, rfl⟩
  · exact ⟨_, n, cap, f, rfl, len_le hn hl l, fun _ => ⟨b, o, rfl, hr⟩, hs, rfl⟩

theorem compare_nt (w : World) (v1 v2 : Value) (m1 m2 : Nat) (h1 : Nt w v1 m1) (h2 : Nt w v2 m2) (l1 : Len m1 1000000000000) (l2 : Len m2 1000000000000) :
    Calls Tryd.prog 31 #[v1, v2] w fun e w' => e = .returned (.int .i64 (cmpN m1 m2)) ∧ Quiet w w' := by
  rcases h1 with ⟨rfl, rfl⟩ | ⟨b1, o1, n1, k1, f1, rfl, hn1, hk1, hr1, hs1, hl1, rfl⟩
  · rcases h2 with ⟨rfl, rfl⟩ | ⟨b2, o2, n2, k2, f2, rfl, hn2, hk2, hr2, hs2, hl2, rfl⟩
    · exact compare_nils w 0 0
    · refine (compare_lens w none _ 0 0 n2 k2 (by omega)).mono ?_
      rintro e w' ⟨rfl, rfl⟩
      have hv := val_ge hn2 hl2
      have hp : 0 < base ^ (n2 - 1) := Nat.pow_pos base_pos
      exact ⟨by unfold cmpN; rw [if_pos (by omega), if_pos (by omega)], Quiet.refl _⟩
  · have hL1 := len_le hn1 hl1 l1
    have hv := val_ge hn1 hl1
    have hp : 0 < base ^ (n1 - 1) := Nat.pow_pos base_pos
    rcases h2 with ⟨rfl, rfl⟩ | ⟨b2, o2, n2, k2, f2, rfl, hn2, hk2, hr2, hs2, hl2, rfl⟩
    · refine (compare_lens w _ none n1 k1 0 0 (by omega)).mono ?_
      rintro e w' ⟨rfl, rfl⟩
      exact ⟨by unfold cmpN; rw [if_neg (by omega), if_neg (by omega), if_pos (by omega)], Quiet.refl _⟩
    · by_cases he : n1 = n2
      · subst he
        exact compare_rows w b1 o1 k1 b2 o2 k2 n1 f1 f2 hL1 hr1 hr2 hs1 hs2
      · refine (compare_lens w _ _ n1 k1 n2 k2 he).mono ?_
        rintro e w' ⟨rfl, rfl⟩
        refine ⟨?_, Quiet.refl _⟩
        by_cases hlt : n1 < n2
        · have := val_lt_of_len hlt hs1 hl2
          unfold cmpN; rw [if_pos hlt, if_pos this]
        · have := val_lt_of_len (show n2 < n1 by omega) hs2 hl1
          unfold cmpN; rw [if_neg hlt, if_neg (by omega), if_pos this]

set_option maxHeartbeats 400000 in
theorem word_nil (w : World) (c : Nat) :
    Calls Tryd.prog 50 #[.slice none 0 c] w fun e w' => e = .returned (.int .u64 0) ∧ w' = w := by
  go_enter Tryd.func50, Tryd.ntmps50
  go_wp2
  go_ret
  exact ⟨rfl, rfl⟩
set_option maxHeartbeats 400000 in
theorem word_some (w : World) (b o n c : Nat) (x : Int) (hn : 0 < n) (hL : n ≤ 1000000000000) (hc : w.cell? ⟨b, o, none⟩ = some (.int .u64 x)) :
    Calls Tryd.prog 50 #[.slice (some ⟨b, o, none⟩) n c] w fun e w' => e = .returned (.int .u64 x) ∧ w' = w := by
  have hb : (((n : Nat) : Int) == 0) = false := by rw [beq_eq_false_iff_ne]; omega
  go_enter Tryd.func50, Tryd.ntmps50
  go_wp2
  go_ret
  exact ⟨rfl, rfl⟩
theorem val_mod {f : Nat → Nat} {n : Nat} (hn : 0 < n) (h : Small f n) : val f n % base = f 0 := by
  obtain ⟨m, rfl⟩ : ∃ m, n = 1 + m := ⟨n - 1, by omega⟩
  have h0 := h 0 (by omega)
  rw [val_split f 1 m, Nat.pow_one, Nat.add_mul_mod_self_left]
  simp only [val, Nat.pow_zero, Nat.mul_one, Nat.zero_add]
  exact Nat.mod_eq_of_lt h0
/-- The lowest digit. -/
theorem word_nt (w : World) (v : Value) (m : Nat) (h : Nt w v m) (l : Len m 1000000000000) :
    Calls Tryd.prog 50 #[v] w fun e w' => e = .returned (.int .u64 ((m % base : Nat) : Int)) ∧ w' = w := by
  rcases h with ⟨rfl, rfl⟩ | ⟨b, o, n, k, f, rfl, hn, hk, hr, hs, hl, rfl⟩
  · exact word_nil w 0
  · rw [val_mod hn hs]
    exact word_some w b o n k _ hn (len_le hn hl l) (hr 0 hn)
end Go.Proofs.YtmdniebedflpbaaDoor.Dy
