/-
  MATHEMATICS: the problems of the law of the cheapest alignment.
-/
import Derived.Test.YtonlamkpehakdaaPzC
import Derived.Test.YtonlamkpehakdaaPzB
import Derived.Test.YtonlamkpehakdaaPsD
import Derived.Test.YtonlamkpehakdaaPsB
import Derived.Test.YtonlamkpehakdaaPxD
import Derived.Deep.AppendLies
namespace Go.Proofs.Ytonlamkpehakdaa
open Go.RowKit

/-- The places: each lies z and a byte behind the one before. -/
def cm (z : Int) (s : Nat → Int) : Nat → Int
  | 0 => 0
  | i + 1 => cm z s i + (z + s i)
theorem cm_bd {z : Int} (hz : 0 ≤ z ∧ z ≤ 1) {s : Nat → Int} {n : Nat} (hs : ∀ i, i < n → 0 ≤ s i ∧ s i ≤ 255) : ∀ i, i ≤ n → 0 ≤ cm z s i ∧ cm z s i ≤ i * 256
  | 0, _ => by simp [cm]
  | i + 1, h => by
    have := cm_bd hz hs i (by omega)
    have := hs i (by omega)
    simp only [cm]
    push_cast
    omega
/-- The place i. -/
def cmP (z : Int) (s : Nat → Int) (i : Nat) : Int := cm z s (i + 1)
theorem cmP_plc {z : Int} (hz : 0 ≤ z ∧ z ≤ 1) {s : Nat → Int} {n : Nat} (hn : n ≤ 12) (hs : ∀ i, i < n → 0 ≤ s i ∧ s i ≤ 255) : ∀ i, i < n → 0 ≤ cmP z s i ∧ cmP z s i ≤ 4096 := fun i hi => by
  have := cm_bd hz hs (i + 1) (by omega)
  unfold cmP
  push_cast at this
  omega
theorem cmP_up {z : Int} {s : Nat → Int} {n : Nat} (hs : ∀ i, i < n → 0 ≤ s i ∧ s i ≤ 255) : ∀ i, 0 < i → i < n → z ≤ cmP z s i - cmP z s (i - 1) := fun i h0 hi => by
  obtain ⟨j, rfl⟩ : ∃ j, i = j + 1 := ⟨i - 1, by omega⟩
  have := hs (j + 1) hi
  unfold cmP
  rw [Nat.add_sub_cancel]
  show z ≤ cm z s (j + 1) + (z + s (j + 1)) - cm z s (j + 1)
  omega
theorem plChk_zero {R : Int} {n : Nat} {g : Nat → Int} (hn : n ≤ 12) (hp : ∀ i, i < n → 0 ≤ g i ∧ g i ≤ 4096) (hu : ∀ i, 0 < i → i < n → R ≤ g i - g (i - 1)) : plChk R n g = 0 := by
  unfold plChk
  rw [if_neg (by omega)]
  refine first_zero fun i hi => ?_
  have := hp i hi
  unfold plErr
  rw [if_neg (by omega), if_neg]
  rintro ⟨h0, h1⟩
  have := hu i h0 hi
  omega
theorem pb_zero {n m : Nat} {g h : Nat → Int} {L F M : Int} (h1 : plChk 1 n g = 0) (h2 : plChk 0 m h = 0) (hL : 0 ≤ L ∧ L ≤ 255) (hF : 0 ≤ F ∧ F ≤ 255) (hM : 0 ≤ M ∧ M ≤ 255) : pbChk n m g h L F M = 0 := by
  unfold pbChk
  rw [h1, h2, if_neg (by decide), if_neg (by decide), if_neg]
  unfold cErr
  rw [if_neg (by omega), if_neg (by omega), if_neg (by omega)]
  decide
theorem gone_plc {q m : Nat} {h : Nat → Int} (hp : ∀ i, i < m + 1 → 0 ≤ h i ∧ h i ≤ 4096) : ∀ i, i < m → 0 ≤ gone q h i ∧ gone q h i ≤ 4096 := fun i hi => by
  have a := hp i (by omega)
  have b := hp (i + 1) (by omega)
  unfold gone
  split <;> assumption
theorem gone_up {q m : Nat} {h : Nat → Int} (hu : ∀ i, 0 < i → i < m + 1 → 0 ≤ h i - h (i - 1)) : ∀ i, 0 < i → i < m → 0 ≤ gone q h i - gone q h (i - 1) := fun i h0 hi => by
  obtain ⟨j, rfl⟩ : ∃ j, i = j + 1 := ⟨i - 1, by omega⟩
  have a := hu (j + 1) (by omega) (by omega)
  have b := hu (j + 1 + 1) (by omega) (by omega)
  rw [Nat.add_sub_cancel] at a b
  unfold gone
  rw [Nat.add_sub_cancel]
  split <;> split <;> omega
/-- What good pairs cost. -/
theorem Goods.cost {n m : Nat} {g h : Nat → Int} {L F M : Int} {l : List (Nat × Nat)} (H : Goods n m g h M l) (hk : pbChk n m g h L F M = 0) : coE n m g h L F M l.length (pcF l) = 0 ∧ prc L F M g h n m ≤ coV n m g h L F M l.length (pcF l) := by
  have hE : coE n m g h L F M l.length (pcF l) = 0 := by
    unfold coE
    rw [hk, if_neg (by simp)]
    exact first_zero fun j hj => coAt_list H.bd H.up hj
  refine ⟨hE, ?_⟩
  have := prc_least L F M g h l.length l n m rfl H.bd H.up
  unfold coV
  rw [hE, if_neg (by simp), coS_sum g h l l.length (Nat.le_refl _), List.take_length]
  exact this
theorem Goods.mis {n m : Nat} {g h : Nat → Int} {M : Int} {l : List (Nat × Nat)} (H : Goods n m g h M l) (hn : n ≤ 12) (hm : m ≤ 12) : misE n m l.length (pcF l) = 0 ∧ (misW n m l.length (pcF l)).length + l.length = n ∧ (misC n m l.length (pcF l)).length + l.length = m := by
  have hE : misE n m l.length (pcF l) = 0 := by
    unfold misE
    rw [if_neg (by omega)]
    refine first_zero fun j hj => ?_
    have := coAt_list H.bd H.up hj
    unfold coAt at this
    by_cases h0 : prErr n m (pcF l) j = 0
    · exact h0
    · rw [if_pos h0] at this; exact this
  have h1 := lone_pairs (fun x hx => ⟨(H.bd x hx).1, (H.bd x hx).2.1⟩) H.up
  refine ⟨hE, ?_, ?_⟩
  · unfold misW; rw [hE, if_neg (by simp), Int.toNat_natCast]; exact h1.1
  · unfold misC; rw [hE, if_neg (by simp), Int.toNat_natCast]; exact h1.2
/-- The pairs of Align are good. -/
theorem goods_back {n m : Nat} {g h : Nat → Int} {L F M : Int} : Goods n m g h M (bkP (prc L F M g h) L F M g h (n + m) n m).reverse := by
  obtain ⟨h1, h2, _⟩ := bkP_ok L F M g h (n + m) n m (Nat.le_refl _)
  exact ⟨fun x hx => h1 x (List.mem_reverse.1 hx), by rw [List.pairwise_reverse]; exact h2⟩
theorem goods_len {n m : Nat} {g h : Nat → Int} {M : Int} {l : List (Nat × Nat)} (H : Goods n m g h M l) : l.length ≤ n := by
  have := (lone_pairs (fun x hx => ⟨(H.bd x hx).1, (H.bd x hx).2.1⟩) H.up).1
  omega
theorem flT_prc {n m : Nat} {g h : Nat → Int} {L F M : Int} (hk : pbChk n m g h L F M = 0) (hn : n ≤ 12) (hm : m ≤ 12) : FlT n m g h L F M (prc L F M g h) := by
  refine ⟨fun i hi k hk' => ?_, fun i hi k hk' s hs => ?_⟩
  · have := prc_bd (pb_ok hk).1 i hi k hk'
    omega
  · unfold stp at hs
    rcases List.mem_append.1 hs with hs | hs
    · rcases List.mem_append.1 hs with hs | hs
      · unfold stp1 at hs
        split at hs
        · obtain rfl := List.mem_singleton.1 hs
          obtain ⟨j, rfl⟩ : ∃ j, i = j + 1 := ⟨i - 1, by omega⟩
          exact prc_wl L F M g h j k
        · cases hs
      · unfold stp2 at hs
        split at hs
        · obtain rfl := List.mem_singleton.1 hs
          obtain ⟨j, rfl⟩ : ∃ j, k = j + 1 := ⟨k - 1, by omega⟩
          exact prc_cl L F M g h i j
        · cases hs
    · unfold stp3 at hs
      by_cases hx : 0 < i ∧ 0 < k ∧ dst g h (i - 1) (k - 1) ≤ M
      · rw [if_pos hx] at hs
        obtain rfl := List.mem_singleton.1 hs
        obtain ⟨a, rfl⟩ : ∃ j, i = j + 1 := ⟨i - 1, by omega⟩
        obtain ⟨b, rfl⟩ : ∃ j, k = j + 1 := ⟨k - 1, by omega⟩
        exact prc_dl L F M g h a b hx.2.2
      · rw [if_neg hx] at hs; cases hs
theorem prc_self {n : Nat} {g : Nat → Int} {L F M : Int} (hk : pbChk n n g g L F M = 0) : prc L F M g g n n = 0 := by
  have h := (pb_ok hk).1
  have h1 := prc_diag (n := n) (g := g) (L := L) (F := F) h.m.1 n
  have h2 := prc_bd h n (Nat.le_refl _) n (Nat.le_refl _)
  omega
theorem plc_i64 {n : Nat} {g : Nat → Int} (hp : ∀ i, i < n → 0 ≤ g i ∧ g i ≤ 4096) : I64s g n := fun i hi => by have := hp i hi; omega
/-- A row of its own of pairs is a slice of them. -/
theorem own_pairs {W : World} {B : Nat} {v : Value} {l : List (Nat × Nat)} {k : Nat} (h : W.ownsRow B 107 2 v k (pcells l)) (hk : k = l.length) : ∃ x c, v = .slice x l.length c ∧ Sl W 2 x l.length (pcF l) := by
  subst hk
  cases l with
  | nil =>
    rcases h.2 with ⟨rfl, _⟩ | ⟨g, cap, cur, rfl, _⟩
    · exact ⟨none, 0, rfl, fun h => absurd h (by decide)⟩
    · exact ⟨some ⟨g, 0, none⟩, cap, rfl, fun h => absurd h (by decide)⟩
  | cons a l =>
    obtain ⟨g, cap, rfl⟩ := ownsRow_succ h
    refine ⟨some ⟨g, 0, none⟩, cap, rfl, fun _ => ⟨g, 0, rfl, fun i hi => ?_⟩⟩
    rw [Nat.zero_add, World.ownsRow.cellAt h i (by simpa using hi)]
    unfold pcells
    rw [List.getElem?_map, List.getElem?_range (by simpa using hi)]
    rfl
theorem jrow_size (p : Nat → Int) (n : Nat) : (jrow p n).length = n := by simp [jrow]
/-- A row of its own of ints is a slice of them. -/
theorem own_ints {W : World} {B : Nat} {v : Value} {n : Nat} {p : Nat → Int} (h : W.ownsRow B 3 1 v n (jrow p n)) : ∃ x c, v = .slice x n c ∧ Sl W 1 x n p ∧ n ≤ c := by
  cases n with
  | zero =>
    rcases h.2 with ⟨rfl, _⟩ | ⟨g, cap, cur, rfl, _⟩
    · exact ⟨none, 0, rfl, fun h => absurd h (by decide), Nat.le_refl _⟩
    · exact ⟨some ⟨g, 0, none⟩, cap, rfl, fun h => absurd h (by decide), Nat.zero_le _⟩
  | succ n =>
    obtain ⟨g, cap, rfl⟩ := ownsRow_succ h
    refine ⟨some ⟨g, 0, none⟩, cap, rfl, ?_, ?_⟩
    rotate_left
    · rcases h.2 with ⟨e, _⟩ | ⟨_, cap, _, e, _, _, hc, _⟩
      · cases e
      · cases e; exact hc
    exact (fun _ => ⟨g, 0, rfl, fun i hi => by rw [Nat.zero_add, World.ownsRow.cellAt h i (by omega), jrow_get p (by omega)]⟩)
theorem own_nil0 {W : World} {B L : Nat} (f : Nat → Int) (h : W.heap[L]? = some (.cells #[] 3 (0, 0))) (hB : B ≤ L) : W.ownsRow B 3 1 (.slice (some ⟨L, 0, none⟩) 0 0) 0 (jrow f 0) := ⟨rfl, .inr ⟨L, 0, #[], rfl, hB, h, Nat.le_refl _, by decide, rfl, rfl⟩⟩
theorem run_append_none {P : Program} (w : World) (t ty e : TypeId) (i : TypeInfo) (ht : P.underlying t = some (.slice e)) (hi : P.info? e = some i) (b : Addr) (n cap : Nat) (hr : n ≤ cap) (ad : Addr) (c : Nat) :
    (Builtin.append_ #[t, t] ty #[.slice (some b) n cap, .slice (some ad) 0 c]).run P w = .ok (.slice (some b) n cap) w := by
  simp [Builtin.append_, run_underlying ht, sizeOf, typeInfo, hi, Builtin.lenOf, Builtin.firstCells, storeCells, hr, loadCells, loadCellsFrom]
theorem jrow_ints (f : Nat → Int) (n : Nat) : ∀ u ∈ jrow f n, u.oneCell' = true := by
  intro u hu
  unfold jrow at hu
  obtain ⟨j, _, rfl⟩ := List.mem_map.1 hu
  rfl
theorem jrow_cat {F G H : Nat → Int} {k : Nat} (h1 : ∀ i, i < k → H i = F i) : ∀ {b : Nat}, (∀ i, i < b → H (k + i) = G i) → jrow H (k + b) = jrow F k ++ jrow G b
  | 0, _ => by
    rw [Nat.add_zero, show jrow G 0 = [] from rfl, List.append_nil]
    unfold jrow
    exact List.map_congr_left fun i hi => by rw [h1 i (by simpa using hi)]
  | b + 1, h2 => by
    rw [← Nat.add_assoc, jrow_succ, jrow_succ, jrow_cat h1 (fun i hi => h2 i (by omega)), h2 b (by omega), List.append_assoc]
theorem cells_from {W : World} {b o n : Nat} {f : Nat → Int} (hI : Ints W b o n f) {ad : Addr} {s c : Nat} (h : 0 < c → ad = ⟨b, o + s, none⟩) (hb : s + c ≤ n) : ∀ i, i < c → W.cell? (ad.add i) = some (.int .i64 (f (s + i))) := fun i hi => by
  rw [h (by omega)]
  have := hI (s + i) (by omega)
  rw [← Nat.add_assoc] at this
  rcases Nat.eq_zero_or_pos i with rfl | h0
  · simpa [Addr.add] using this
  · simpa [Addr.add, Nat.ne_of_gt h0] using this
/-- Onto ints of one's own: others. -/
theorem step_ints {ops : Array Oper} {o : Oper} {a : Act} {W : World} {K : Act → World → Prop} {Q : Exit → Act → World → Prop} {E : Prop} (hgd : o.guard = none) (s x : Operand)
    (ho : o.op = .call { callee := .builtin .append, args := #[s, x], argTypes := #[23, 23] })
    {B g0 cap0 : Nat} {ad : Addr} {c2 : Nat} {k b kb : Nat} {F G H : Nat → Int} (hkb : kb = k + b) (hs : a.eval s = .slice (some ⟨g0, 0, none⟩) k cap0) (hx : a.eval x = .slice (some ad) b c2)
    (hown : W.ownsRow B 3 1 (.slice (some ⟨g0, 0, none⟩) k cap0) k (jrow F k)) (hcells : ∀ i, i < b → W.cell? (ad.add i) = some (.int .i64 (G i))) (h1 : ∀ i, i < k → H i = F i) (h2 : ∀ i, i < b → H (k + i) = G i) (hk : k ≤ 100) (hb : b ≤ 100) (hB : B ≤ W.heap.size)
    (h : ∀ g cap w', w'.ownsRow B 3 1 (.slice (some ⟨g, 0, none⟩) kb cap) kb (jrow H kb) → W.grownBy w' (some g0) → (g0 = g ∨ g = W.heap.size) → K (a.put o.dst (.slice (some ⟨g, 0, none⟩) kb cap)) w') :
    if Region.wanted o (yielded ops a.tmps) = true then Oper.wp Try.prog o a W K Q else E := by
  subst hkb
  obtain ⟨i0, hi0, hz0, hz1, hz2⟩ := info_parts x_int
  have hcat := jrow_cat h1 h2
  cases b with
  | zero =>
    have hw : Region.wanted o (yielded ops a.tmps) = true := by simp [Region.wanted, hgd]
    rw [if_pos hw]
    have hcap : k ≤ cap0 := by
      rcases hown.2 with ⟨e, _⟩ | ⟨_, cap, _, e, _, _, hc, _⟩
      · cases e
      · cases e; exact hc
    have hrun := run_append_none (P := Try.prog) W 23 o.type 3 i0 Try.underlying23 hi0 ⟨g0, 0, none⟩ k cap0 hcap ad c2
    unfold Oper.wp
    simp [execOp, ho, resolve, invoke, builtin, hs, hx, hrun, Result.andThen]
    refine h g0 cap0 W ?_ (World.grownBy.refl W _) (.inl rfl)
    rw [hcat, show jrow G 0 = [] from rfl, List.append_nil]
    exact hown
  | succ b =>
    refine step_append_lies W hgd s x 23 ho B 3 i0 (.int .i64 0) 1 8 Try.underlying23 hi0 hz0 hz1 hz2 rfl (by decide) _ k (jrow F k) hs hown ad (b + 1) c2 (jrow G (b + 1)) hx (by simp [jrow]) (fun j u hu => ?_) (jrow_ints _ _) (by omega) (by unfold maxLen; omega) (by omega) hB _ rfl ?_
    · have hj : j < b + 1 := by
        have := (List.getElem?_eq_some_iff.1 hu).1
        simpa [jrow] using this
      rw [jrow_get G hj] at hu
      cases hu
      exact hcells j hj
    · intro g cap w' g1 g2 g3 g4
      exact h g cap w' (by rw [hcat]; exact g1) g2 (g3.imp (fun e => by simpa [Value.ownBlock] using e) id)
end Go.Proofs.Ytonlamkpehakdaa
