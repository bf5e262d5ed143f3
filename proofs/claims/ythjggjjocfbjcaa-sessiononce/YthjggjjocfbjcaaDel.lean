/- slices.DeleteFunc of requests that are kept (up to a floor), and of those that wait (of one number). -/
import Derived.Test.YthjggjjocfbjcaaIns
import Derived.Laws.EntriesVeiled
namespace Go.Proofs.Ythjggjjocfbjcaa
open Go.RowKit

/-- What stands between two rounds of DeleteFunc: the kept ones, what is spent, those to come, spare room. -/
def DelI (e : Nat) (p : Int → Bool) (L : List KV) (g c : Nat) (wr : World) (i j : Nat) : Prop :=
  ∃ (F : List KV) (mid spare : List Value), F = (L.take j).filter (fun k => !p k.num) ∧ F.length = i ∧ mid.length = (j - i) * 2 ∧ i < j ∧ wr.heap[g]? = some (.cells (F.flatMap KV.cells ++ mid ++ (L.drop j).flatMap KV.cells ++ spare).toArray e (0, 0)) ∧ spare.length = (c - L.length) * 2

theorem filter_take_keep {L : List KV} {j : Nat} (hj : j < L.length) (p : Int → Bool) (h : p L[j].num = false) : (L.take (j + 1)).filter (fun k => !p k.num) = (L.take j).filter (fun k => !p k.num) ++ [L[j]] := by
  rw [List.take_succ_eq_append_getElem hj, List.filter_append]
  simp [h]

theorem filter_take_drop {L : List KV} {j : Nat} (hj : j < L.length) (p : Int → Bool) (h : p L[j].num = true) : (L.take (j + 1)).filter (fun k => !p k.num) = (L.take j).filter (fun k => !p k.num) := by
  rw [List.take_succ_eq_append_getElem hj, List.filter_append]
  simp [h]

theorem set_mid (X Y : List Value) (m0 m1 a b : Value) (k : Nat) (hk : X.length = k) : (((X ++ m0 :: m1 :: Y).toArray.setIfInBounds k a).setIfInBounds (k + 1) b) = (X ++ a :: b :: Y).toArray := by
  subst hk
  apply Array.toList_inj.1
  simp

theorem flat_drop {L : List KV} {j : Nat} (hj : j < L.length) : (L.drop j).flatMap KV.cells = Value.int .i64 L[j].num :: .slice L[j].a L[j].body.length L[j].c :: (L.drop (j + 1)).flatMap KV.cells := by
  rw [List.drop_eq_getElem_cons hj, List.flatMap_cons]
  rfl

theorem get_mid (X Y : List Value) (a b : Value) (k : Nat) (hk : X.length = k) : (X ++ a :: b :: Y).toArray[k]? = some a ∧ (X ++ a :: b :: Y).toArray[k + 1]? = some b := by
  subst hk
  simp

/-- The round that keeps. -/
theorem DelI.keep {e : Nat} {p : Int → Bool} {L : List KV} {g c : Nat} {w w2 : World} {i j : Nat} (h : DelI e p L g c w i j) (hb : Below w.heap.size w w2) (hj : j < L.length) (hp : p L[j].num = false) :
    ∃ m0 m1, w2.cell? ⟨g, i * 2, none⟩ = some m0 ∧ w2.cell? ⟨g, i * 2 + 1, none⟩ = some m1 ∧ (∀ k, w2.frozen? ⟨g, k, none⟩ = false) ∧
      DelI e p L g c ((w2.setCell ⟨g, i * 2, none⟩ (.int .i64 L[j].num)).setCell ⟨g, i * 2 + 1, none⟩ (.slice L[j].a L[j].body.length L[j].c)) (i + 1) (j + 1) := by
  obtain ⟨F, mid, spare, hF, hFl, hm, hij, hg, hs⟩ := h
  have hg2 := (hb.block g (Array.getElem?_eq_some_iff.1 hg).1).trans hg
  rcases mid with _ | ⟨m0, _ | ⟨m1, mid'⟩⟩
  · simp at hm; omega
  · simp at hm; omega
  · have hX : (F.flatMap KV.cells).length = i * 2 := by rw [kcells_len, hFl]
    have e1 : F.flatMap KV.cells ++ m0 :: m1 :: mid' ++ (L.drop j).flatMap KV.cells ++ spare = F.flatMap KV.cells ++ m0 :: m1 :: (mid' ++ (L.drop j).flatMap KV.cells ++ spare) := by simp
    rw [e1] at hg2
    refine ⟨m0, m1, ?_, ?_, fun k => by simp [World.frozen?, hg2], ?_⟩
    · simp only [World.cell?, hg2]
      exact (get_mid _ _ _ _ _ hX).1
    · simp only [World.cell?, hg2]
      exact (get_mid _ _ _ _ _ hX).2
    · refine ⟨F ++ [L[j]], mid' ++ L[j].cells, spare, ?_, by simp [hFl], ?_, by omega, ?_, hs⟩
      · rw [hF, filter_take_keep hj p hp]
      · simp [KV.cells] at hm ⊢; omega
      · rw [setCell_eq_setRow w2 g (i * 2) _ e (0, 0) _ hg2, setCell_eq_setRow _ g (i * 2 + 1) _ e (0, 0) _ (setRow_heap w2 g _ _ e _ hg2), setRow_setRow, setRow_heap w2 g _ _ e _ hg2, set_mid _ _ _ _ _ _ _ hX]
        congr 3
        rw [flat_drop hj]
        simp [KV.cells]

theorem DelI.drop {e : Nat} {p : Int → Bool} {L : List KV} {g c : Nat} {w w2 : World} {i j : Nat} (h : DelI e p L g c w i j) (hb : Below w.heap.size w w2) (hj : j < L.length) (hp : p L[j].num = true) : DelI e p L g c w2 i (j + 1) := by
  obtain ⟨F, mid, spare, hF, hFl, hm, hij, hg, hs⟩ := h
  have hg2 := (hb.block g (Array.getElem?_eq_some_iff.1 hg).1).trans hg
  refine ⟨F, mid ++ L[j].cells, spare, by rw [filter_take_drop hj p hp]; exact hF, hFl, by simp [KV.cells]; omega, by omega, ?_, hs⟩
  rw [hg2]
  congr 3
  rw [flat_drop hj]
  simp [KV.cells]

/-- The element that a round reads. -/
theorem DelI.read {e : Nat} {p : Int → Bool} {L : List KV} {g c : Nat} {w : World} {i j : Nat} (h : DelI e p L g c w i j) (hj : j < L.length) : w.cell? ⟨g, j * 2, none⟩ = some (.int .i64 L[j].num) ∧ w.cell? ⟨g, j * 2 + 1, none⟩ = some (.slice L[j].a L[j].body.length L[j].c) := by
  obtain ⟨F, mid, spare, hF, hFl, hm, hij, hg, hs⟩ := h
  have hX : (F.flatMap KV.cells ++ mid).length = j * 2 := by rw [List.length_append, kcells_len, hFl]; omega
  have e1 : F.flatMap KV.cells ++ mid ++ (L.drop j).flatMap KV.cells ++ spare = (F.flatMap KV.cells ++ mid) ++ Value.int .i64 L[j].num :: .slice L[j].a L[j].body.length L[j].c :: ((L.drop (j + 1)).flatMap KV.cells ++ spare) := by
    rw [flat_drop hj]
    simp
  rw [e1] at hg
  constructor
  · simp only [World.cell?, hg]
    exact (get_mid _ _ _ _ _ hX).1
  · simp only [World.cell?, hg]
    exact (get_mid _ _ _ _ _ hX).2

theorem zeros_len (n : Nat) : (Builtin.zeroCells (Value.cells (.agg #[.int .i64 0, .slice none 0 0])) n).toList.length = n * 2 := by
  have hz1 : (Value.cells (.agg #[.int .i64 0, .slice none 0 0])).size = 2 := rfl
  rw [Array.length_toList, size_zeroCells, hz1]

theorem zeros_one (n : Nat) : ∀ v ∈ (Builtin.zeroCells (Value.cells (.agg #[.int .i64 0, .slice none 0 0])) n).toList, v.oneCell' = true := by
  intro v hv
  simp only [Builtin.zeroCells, Array.toList_map, List.mem_map] at hv
  obtain ⟨i, _, rfl⟩ := hv
  have h2 : (Value.cells (.agg #[.int .i64 0, .slice none 0 0])) = #[.int .i64 0, .slice none 0 0] := rfl
  rw [h2]
  have hlt : i % 2 < 2 := Nat.mod_lt _ (by omega)
  rcases Nat.lt_or_ge (i % 2) 1 with h | h
  · have : i % 2 = 0 := by omega
    simp [this, Value.oneCell']
  · have : i % 2 = 1 := by omega
    simp [this, Value.oneCell']

/-- What clear leaves. -/
theorem DelI.done {e : Nat} {p : Int → Bool} {L : List KV} {g c base : Nat} {w : World} {i : Nat} (h : DelI e p L g c w i L.length) (hc : L.length ≤ c) (hcm : c ≤ maxLen) (hb : base ≤ g) :
    ∃ cur : Array Value, w.heap[g]? = some (.cells cur e (0, 0)) ∧ i * 2 + (Builtin.zeroCells (Value.cells (.agg #[.int .i64 0, .slice none 0 0])) (L.length - i)).toList.length ≤ cur.size ∧
      (w.setRow g (cur.toList.take (i * 2) ++ (Builtin.zeroCells (Value.cells (.agg #[.int .i64 0, .slice none 0 0])) (L.length - i)).toList ++ cur.toList.drop (i * 2 + (Builtin.zeroCells (Value.cells (.agg #[.int .i64 0, .slice none 0 0])) (L.length - i)).toList.length)).toArray).ownsRow base e 2 (.slice (some ⟨g, 0, none⟩) i c) i ((L.filter (fun k => !p k.num)).flatMap KV.cells) ∧ (L.filter (fun k => !p k.num)).length = i := by
  obtain ⟨F, mid, spare, hF, hFl, hm, hij, hg, hs⟩ := h
  rw [List.take_length] at hF
  subst hF
  have hX : ((L.filter (fun k => !p k.num)).flatMap KV.cells).length = i * 2 := by rw [kcells_len, hFl]
  refine ⟨_, hg, ?_, ?_, hFl⟩
  · rw [zeros_len]; simp [hX, hm, hs]; try omega
  · refine owns_set hg hb (by omega) hcm ?_ (by rw [kcells_len, hFl]) ?_
    · rw [List.size_toArray, List.length_append, List.length_append, zeros_len, List.length_take, List.length_drop]
      simp [hX, hm, hs]; omega
    · simp only [List.drop_length, List.flatMap_nil, List.append_nil]
      rw [List.append_assoc, List.take_append_of_le_length (by simp [hX]), List.take_take, Nat.min_self]
      rw [List.append_assoc, List.take_append_of_le_length (by omega), List.take_of_length_le (by omega)]

theorem pred_k (q : Nat) (t x : Int) (s : Value) (w : World) (hq : w.cell? ⟨q, 1, none⟩ = some (.int .i64 t)) : Calls Try.prog 63 #[.agg #[.int .i64 x, s], .pointer (some ⟨q, 0, none⟩)] w fun e w' => e = .returned (.bool (decide (x ≤ t))) ∧ Below w.heap.size w w' := by
  have b1 := below_lit w (.cells #[.int .i64 x, s] 36)
  have hq1 : (w.alloc (.cells #[.int .i64 x, s] 36)).cell? ⟨q, 1, none⟩ = some (.int .i64 t) := by rw [b1.cell (p := ⟨q, 1, none⟩) (World.block_lt_of_cell? w _ hq)]; exact hq
  have hlt : q < w.heap.size := World.block_lt_of_cell? w _ hq
  go_enter Try.func63, Try.ntmps63
  go_wp2
  go_ret
  exact ⟨ret_bool rfl, b1⟩

set_option maxRecDepth 100000 in
set_option maxHeartbeats 400000 in
theorem idx_k_none (a : Option Addr) (n c lo q : Nat) (t : Int) (L : List KV) (w : World) (hL : L.length = n) (h : KAt w lo a L) (hn : n ≤ 3000000000000) (hq : w.cell? ⟨q, 1, none⟩ = some (.int .i64 t)) (hno : ∀ k ∈ L, (decide (k.num ≤ t)) = false) :
    Calls Try.prog 69 #[.slice a n c, .func (.func 63) #[] #[.pointer (some ⟨q, 0, none⟩)]] w fun e w' => e = .returned (.int .i64 (-1)) ∧ Below w.heap.size w w' := by
  replace hL := hid hL
  replace hno := hid hno
  go_enter Try.func69, Try.ntmps69
  go_wp2_with fail
  go_loopw [8] (fun i wr => ∃ j : Nat, j ≤ n ∧ i = .int .i64 (j : Int) ∧ Below w.heap.size w wr) (fun i _ => n - (intOf i).toNat)
  case atStart => exact ⟨0, Nat.zero_le _, rfl, Below.refl _ _⟩
  case round =>
    obtain ⟨j, hj, rfl, hb⟩ := hrel
    by_cases hlt : j < n
    · have hjL : j < L.length := by rw [hL.out]; exact hlt
      obtain ⟨b, o, e⟩ := h.place (by intro e; rw [e] at hjL; simp at hjL)
      subst e
      have hr := h.below hb
      obtain ⟨x0, x1⟩ := hr.one j hjL
      have hpn := hno.out _ (List.getElem_mem hjL)
      replace hr := hid hr
      generalize L[j].num = X at x0 hpn
      generalize L[j].a = ka at x1
      generalize L[j].body.length = kn at x1
      generalize L[j].c = kc at x1
      have hq2 : wr.cell? ⟨q, 1, none⟩ = some (.int .i64 t) := by rw [hb.cell (p := ⟨q, 1, none⟩) (World.block_lt_of_cell? w _ hq)]; exact hq
      replace hq2 := hid hq2
      replace hpn := hid hpn
      go_wp2_with fail
      refine (pred_k q t X _ _ hq2.out).mono ?_
      rintro e w2 ⟨rfl, hb2⟩
      rw [hpn.out]
      go_wp2_with fail
      go_roundw
      case rel => exact ⟨j + 1, by omega, by go_num, bnext hb hb2⟩
      case measure => simp [intOf]; omega
    · obtain rfl : j = n := by omega
      go_wp2
      go_ret
      exact ⟨rfl, hb⟩

set_option maxRecDepth 100000 in
set_option maxHeartbeats 400000 in
theorem idx_k_some (a : Option Addr) (n c lo q i : Nat) (t : Int) (L : List KV) (w : World) (hL : L.length = n) (h : KAt w lo a L) (hn : n ≤ 3000000000000) (hq : w.cell? ⟨q, 1, none⟩ = some (.int .i64 t)) (hi : i < L.length) (hyes : (decide (L[i].num ≤ t)) = true) (hno : ∀ j (h : j < i), (decide ((L[j]).num ≤ t)) = false) :
    Calls Try.prog 69 #[.slice a n c, .func (.func 63) #[] #[.pointer (some ⟨q, 0, none⟩)]] w fun e w' => e = .returned (.int .i64 (i : Int)) ∧ Below w.heap.size w w' := by
  have hin : i < n := by omega
  replace hL := hid hL
  replace hno := hid hno
  replace hyes := hid hyes
  go_enter Try.func69, Try.ntmps69
  go_wp2_with fail
  go_loopw [8] (fun ii wr => ∃ j : Nat, j ≤ i ∧ ii = .int .i64 (j : Int) ∧ Below w.heap.size w wr) (fun ii _ => n - (intOf ii).toNat)
  case atStart => exact ⟨0, Nat.zero_le _, rfl, Below.refl _ _⟩
  case round =>
    obtain ⟨j, hj, rfl, hb⟩ := hrel
    have hlt : j < n := by omega
    have hjL : j < L.length := by rw [hL.out]; exact hlt
    obtain ⟨b, o, e⟩ := h.place (by intro e; rw [e] at hjL; simp at hjL)
    subst e
    have hr := h.below hb
    obtain ⟨x0, x1⟩ := hr.one j hjL
    have hq2 : wr.cell? ⟨q, 1, none⟩ = some (.int .i64 t) := by rw [hb.cell (p := ⟨q, 1, none⟩) (World.block_lt_of_cell? w _ hq)]; exact hq
    replace hr := hid hr
    replace hq2 := hid hq2
    generalize L[j].a = ka at x1
    generalize L[j].body.length = kn at x1
    generalize L[j].c = kc at x1
    by_cases hji : j = i
    · have hpn : Hid ((decide (L[j].num ≤ t)) = true) := by subst hji; exact hyes
      generalize L[j].num = X at x0 hpn
      replace hji := hid hji
      go_wp2_with fail
      refine (pred_k q t X _ _ hq2.out).mono ?_
      rintro e w2 ⟨rfl, hb2⟩
      rw [hpn.out]
      go_wp2
      go_ret
      exact ⟨by rw [hji.out]; rfl, bnext hb hb2⟩
    · have hpn : Hid ((decide (L[j].num ≤ t)) = false) := hid (hno.out j (by omega))
      generalize L[j].num = X at x0 hpn
      go_wp2_with fail
      refine (pred_k q t X _ _ hq2.out).mono ?_
      rintro e w2 ⟨rfl, hb2⟩
      rw [hpn.out]
      go_wp2_with fail
      go_roundw
      case rel => exact ⟨j + 1, by omega, by go_num, bnext hb hb2⟩
      case measure => simp [intOf]; omega

/-- What DeleteFunc leaves. -/
def DelPostk (base : Nat) (v : Value) (L : List KV) (t : Int) (w : World) (en : Ending) (w' : World) : Prop :=
  ∃ v', en = .returned v' ∧ w'.ownsRow base 36 2 v' (L.filter fun k => !(decide (k.num ≤ t))).length ((L.filter fun k => !(decide (k.num ≤ t))).flatMap KV.cells) ∧ Kp (fun g => v.ownBlock = some g) w w' ∧ v'.ownBlock = v.ownBlock

set_option maxRecDepth 100000 in
set_option maxHeartbeats 400000 in
theorem del_k_none (a : Option Addr) (n c lo q base : Nat) (t : Int) (L : List KV) (w : World) (hL : L.length = n) (h : KAt w lo a L) (hn : n ≤ 3000000000000) (hown : w.ownsRow base 36 2 (.slice a n c) n (L.flatMap KV.cells)) (hq : w.cell? ⟨q, 1, none⟩ = some (.int .i64 t)) (hno : ∀ k ∈ L, (decide (k.num ≤ t)) = false) :
    Calls Try.prog 64 #[.slice a n c, .func (.func 63) #[] #[.pointer (some ⟨q, 0, none⟩)]] w (DelPostk base (.slice a n c) L t w) := by
  replace hown := hid hown
  replace hL := hid hL
  go_enter Try.func64, Try.ntmps64
  go_wp2_with fail
  refine (idx_k_none a n c lo q t L _ hL.out h hn hq hno).mono ?_
  rintro e w2 ⟨rfl, hb2⟩
  replace hno := hid hno
  go_wp2
  go_ret
  have hf : (L.filter fun k => !(decide (k.num ≤ t))) = L := List.filter_eq_self.2 (fun k hk => by rw [hno.out k hk]; rfl)
  refine ⟨_, rfl, ?_, Kp.of_below hb2, rfl⟩
  rw [hf, hL.out]
  exact owns_below hown.out hb2

set_option maxRecDepth 100000 in
set_option maxHeartbeats 1000000 in
theorem del_k_some (g n c q i base : Nat) (t : Int) (L : List KV) (cur : Array Value) (w : World) (hL : L.length = n) (hn : n ≤ 3000000000000) (hb0 : base ≤ g) (hcs : cur.size = c * 2) (hg : w.heap[g]? = some (.cells cur 36 (0, 0))) (ht : cur.toList.take (n * 2) = L.flatMap KV.cells) (hnc : n ≤ c) (hcm : c ≤ maxLen) (h : KAt w base (some ⟨g, 0, none⟩) L) (hqg : q ≠ g) (hq : w.cell? ⟨q, 1, none⟩ = some (.int .i64 t)) (hi : i < L.length) (hyes : (decide (L[i].num ≤ t)) = true) (hno : ∀ j (h : j < i), (decide ((L[j]).num ≤ t)) = false) :
    Calls Try.prog 64 #[.slice (some ⟨g, 0, none⟩) n c, .func (.func 63) #[] #[.pointer (some ⟨q, 0, none⟩)]] w (DelPostk base (.slice (some ⟨g, 0, none⟩) n c) L t w) := by
  have hin : i < n := by omega
  have hstart : DelI 36 (fun x => decide (x ≤ t)) L g c w i (i + 1) := by
    have hF : (L.take i).filter (fun k => !(decide (k.num ≤ t))) = L.take i := List.filter_eq_self.2 (fun k hk => by
      obtain ⟨j, hj, rfl⟩ := List.getElem_of_mem hk
      have hj' : j < i := by simp at hj; omega
      rw [List.getElem_take]
      rw [hno j hj']; rfl)
    refine ⟨L.take i, L[i].cells, cur.toList.drop (n * 2), ?_, by simp; omega, by simp [KV.cells], by omega, ?_, ?_⟩
    · rw [filter_take_drop hi (fun x => decide (x ≤ t)) hyes]; exact hF.symm
    · have e1 : (L.take i).flatMap KV.cells ++ L[i].cells ++ (L.drop (i + 1)).flatMap KV.cells = L.flatMap KV.cells := by
        conv => rhs; rw [← List.take_append_drop i L, List.flatMap_append, flat_drop hi]
        simp [KV.cells]
      rw [e1, ← ht, List.take_append_drop]
      exact hg
    · rw [List.length_drop, Array.length_toList, hcs, hL, Nat.sub_mul]
  have hzv : ∀ w, (zeroValue 36).run Try.prog w = .ok (.agg #[.int .i64 0, .slice none 0 0]) w := fun w => by
    obtain ⟨i0, hi0, hz0, hz1, hz2⟩ := info_parts info36z
    simp [zeroValue, typeInfo, hi0, hz0]
  have hqw := World.block_lt_of_cell? w _ hq
  have hc63 : c ≤ 9223372036854775807 := by unfold maxLen at hcm; omega
  replace hL := hid hL
  replace hg := hid hg
  replace ht := hid ht
  replace hcs := hid hcs
  replace hcm := hid hcm
  replace hstart := hid hstart
  go_enter Try.func64, Try.ntmps64
  go_wp2_with fail
  refine (idx_k_some (some ⟨g, 0, none⟩) n c base q i t L _ hL.out h hn hq hi hyes hno).mono ?_
  rintro e w2 ⟨rfl, hb2⟩
  have hst2 : DelI 36 (fun x => decide (x ≤ t)) L g c w2 i (i + 1) := by
    obtain ⟨F, mid, spare, a1, a2, a3, a4, a5, a6⟩ := hstart.out
    exact ⟨F, mid, spare, a1, a2, a3, a4, by rw [hb2.block g (Array.getElem?_eq_some_iff.1 a5).1]; exact a5, a6⟩
  replace hst2 := hid hst2
  replace hno := hid hno
  replace hyes := hid hyes
  replace h := hid h
  have hne1 : ¬ ((i : Int) = -1) := by omega
  have hne2 : ((i : Int) == -1) = false := by simp
  go_wp2_with fail
  go_loopw [5, 6] (fun ii jj wr => ∃ i' j : Nat, j ≤ n ∧ ii = .int .i64 (i' : Int) ∧ jj = .int .i64 (j : Int) ∧ Hid (DelI 36 (fun x => decide (x ≤ t)) L g c wr i' j) ∧ Kp (fun k => some g = some k) w wr) (fun _ jj _ => n - (intOf jj).toNat)
  case atStart => exact ⟨i, i + 1, by omega, rfl, by go_num, hst2, Kp.of_below hb2⟩
  case round =>
    obtain ⟨i', j, hj, rfl, rfl, hD, hK⟩ := hrel
    have hij : i' < j := by obtain ⟨_, _, _, _, _, _, h, _⟩ := hD.out; exact h
    by_cases hlt : j < n
    · have hjL : j < L.length := by rw [hL.out]; exact hlt
      obtain ⟨x0, x1⟩ := hD.out.read hjL
      have hq3 : wr.cell? ⟨q, 1, none⟩ = some (.int .i64 t) := by
        rw [World.cell?_of_block (w := w) (a := ⟨q, 1, none⟩) (hK.block q hqw (fun e => hqg (Option.some.inj e).symm))]; exact hq
      have hkeep := fun w5 hb hp => hid (hD.out.keep (w2 := w5) hb hjL hp)
      have hdrop := fun w5 hb hp => hid (hD.out.drop (w2 := w5) hb hjL hp)
      generalize L[j].num = X at x0 hkeep hdrop
      generalize L[j].a = ka at x1 hkeep
      generalize L[j].body.length = kn at x1 hkeep
      generalize L[j].c = kc at x1 hkeep
      replace hkeep := hid hkeep
      replace hdrop := hid hdrop
      have b4 := below_lit wr (.cells #[.int .i64 X, .slice ka kn kc] 36)
      have T4 := TBlk.new 36 wr (.int .i64 X) (.slice ka kn kc)
      have hq4 : (wr.alloc (.cells #[.int .i64 X, .slice ka kn kc] 36)).cell? ⟨q, 1, none⟩ = some (.int .i64 t) := by rw [b4.cell (p := ⟨q, 1, none⟩) (World.block_lt_of_cell? wr _ hq3)]; exact hq3
      replace hq4 := hid hq4
      replace hq3 := hid hq3
      replace T4 := hid T4
      go_wp2_with fail
      refine (pred_k q t X _ _ hq4.out).mono ?_
      rintro e w5 ⟨rfl, hb5⟩
      have B5 := bnext b4 hb5
      by_cases hp : (decide (X ≤ t)) = true
      · rw [hp]
        have hD2 := hdrop.out w5 B5 hp
        go_wp2_with fail
        go_roundw
        case rel => exact ⟨i', j + 1, by omega, rfl, by go_num, hD2, hK.then B5⟩
        case measure => simp [intOf]; omega
      · replace hp : (decide (X ≤ t)) = false := by simpa using hp
        rw [hp]
        obtain ⟨m0, m1, y0, y1, fz, hD2⟩ := (hkeep.out w5 B5 hp).out
        have T5 := T4.out.below hb5
        have c0 := T5.cell0
        have c1 := T5.cell1
        have f0 := fz (i' * 2)
        have f1 := fz (i' * 2 + 1)
        replace hD2 := hid hD2
        replace hp := hid hp
        replace T5 := hid T5
        clear fz
        go_wp2_with fail
        go_roundw
        case rel => exact ⟨i' + 1, j + 1, by omega, by go_num, by go_num, hD2, ((hK.then B5).setCell (p := ⟨g, i' * 2, none⟩) rfl _).setCell (p := ⟨g, i' * 2 + 1, none⟩) rfl _⟩
        case measure => simp [intOf]; omega
    · obtain rfl : j = n := by omega
      have hDn := hD.out
      rw [← hL.out] at hDn
      obtain ⟨cur2, hg2, hfit, hrow, hlen⟩ := hDn.done (base := base) (by rw [hL.out]; exact hnc) hcm.out hb0
      rw [hL.out] at hfit hrow
      have hcl := fun ty c' => run_clear_rowk (P := Try.prog) wr 32 36 ty _ Try.underlying32 hzv g (i' * 2) (j - i') c' (by omega) cur2 hg2 hfit (zeros_one _)
      obtain ⟨new, hnew⟩ : ∃ new, new = (cur2.toList.take (i' * 2) ++ (Builtin.zeroCells (Value.cells (.agg #[.int .i64 0, .slice none 0 0])) (j - i')).toList ++ cur2.toList.drop (i' * 2 + (Builtin.zeroCells (Value.cells (.agg #[.int .i64 0, .slice none 0 0])) (j - i')).toList.length)).toArray := ⟨_, rfl⟩
      rw [← hnew] at hrow hcl
      have hK2 := hK.trans (kp_setRow (w := wr) (g := g) new)
      have hne3 : ¬ (c = i') := by omega
      replace hrow := hid hrow
      replace hK2 := hid hK2
      replace hlen := hid hlen
      clear hfit hg2 hnew hDn
      go_wp2
      go_ret
      refine ⟨_, rfl, ?_, hK2.out, rfl⟩
      rw [hlen.out]
      exact hrow.out

theorem del_k (a : Option Addr) (n c q base : Nat) (t : Int) (L : List KV) (w : World) (hL : L.length = n) (hn : n ≤ 3000000000000) (h : KOwn 36 w base (.slice a n c) L) (hqg : (Value.slice a n c).ownBlock ≠ some q) (hq : w.cell? ⟨q, 1, none⟩ = some (.int .i64 t)) :
    Calls Try.prog 64 #[.slice a n c, .func (.func 63) #[] #[.pointer (some ⟨q, 0, none⟩)]] w fun e w' => ∃ v', e = .returned v' ∧ KOwn 36 w' base v' (L.filter fun k => !(decide (k.num ≤ t))) ∧ Kp (fun g => (Value.slice a n c).ownBlock = some g) w w' ∧ v'.ownBlock = (Value.slice a n c).ownBlock := by
  have key : Calls Try.prog 64 #[.slice a n c, .func (.func 63) #[] #[.pointer (some ⟨q, 0, none⟩)]] w (DelPostk base (.slice a n c) L t w) := by
    by_cases hno : ∀ k ∈ L, (decide (k.num ≤ t)) = false
    · exact del_k_none a n c base q base t L w hL h.kat hn (by have := h.row; rwa [hL] at this) hq hno
    · have hex : ∃ k ∈ L, (decide (k.num ≤ t)) = true := by
        apply Classical.byContradiction
        intro hc
        refine hno (fun k hk => ?_)
        cases hb : (decide (k.num ≤ t)) with
        | false => rfl
        | true => exact absurd ⟨k, hk, hb⟩ hc
      have hi := List.findIdx_lt_length_of_exists (p := fun k : KV => decide (k.num ≤ t)) hex
      rcases h.row.2 with ⟨_, h0⟩ | ⟨g, cap, cur, hh, hb, hg, hc, hcm, hs, ht⟩
      · rw [h0] at hi; omega
      · simp only [Value.slice.injEq] at hh
        obtain ⟨rfl, _, rfl⟩ := hh
        rw [hL] at ht hc
        exact del_k_some g n c q _ base t L cur w hL hn hb hs hg ht hc hcm h.kat (fun e => hqg (by rw [e]; rfl)) hq hi (List.findIdx_getElem (w := hi)) (fun j hj => by have := List.not_of_lt_findIdx hj; simpa using this)
  refine key.mono ?_
  rintro e w' ⟨v', rfl, hr, hk, hv⟩
  refine ⟨v', rfl, ⟨hr, fun k hk' => ?_, fun k hk' => h.short k ((List.mem_filter.1 hk').1)⟩, hk, hv⟩
  exact (h.own k ((List.mem_filter.1 hk').1)).kp hk (fun g hg => own_off (h.own k ((List.mem_filter.1 hk').1)) h.row (by decide) g hg)

theorem pred_w (q : Nat) (t x : Int) (s : Value) (w : World) (hq : w.cell? ⟨q, 0, none⟩ = some (.int .i64 t)) : Calls Try.prog 50 #[.agg #[.int .i64 x, s], .pointer (some ⟨q, 0, none⟩)] w fun e w' => e = .returned (.bool (x == t)) ∧ Below w.heap.size w w' := by
  have b1 := below_lit w (.cells #[.int .i64 x, s] 69)
  have hq1 : (w.alloc (.cells #[.int .i64 x, s] 69)).cell? ⟨q, 0, none⟩ = some (.int .i64 t) := by rw [b1.cell (p := ⟨q, 0, none⟩) (World.block_lt_of_cell? w _ hq)]; exact hq
  have hlt : q < w.heap.size := World.block_lt_of_cell? w _ hq
  go_enter Try.func50, Try.ntmps50
  go_wp2
  go_ret
  exact ⟨ret_bool rfl, b1⟩

set_option maxRecDepth 100000 in
set_option maxHeartbeats 400000 in
theorem idx_w_none (a : Option Addr) (n c lo q : Nat) (t : Int) (L : List KV) (w : World) (hL : L.length = n) (h : KAt w lo a L) (hn : n ≤ 3000000000000) (hq : w.cell? ⟨q, 0, none⟩ = some (.int .i64 t)) (hno : ∀ k ∈ L, (k.num == t) = false) :
    Calls Try.prog 67 #[.slice a n c, .func (.func 50) #[] #[.pointer (some ⟨q, 0, none⟩)]] w fun e w' => e = .returned (.int .i64 (-1)) ∧ Below w.heap.size w w' := by
  replace hL := hid hL
  replace hno := hid hno
  go_enter Try.func67, Try.ntmps67
  go_wp2_with fail
  go_loopw [8] (fun i wr => ∃ j : Nat, j ≤ n ∧ i = .int .i64 (j : Int) ∧ Below w.heap.size w wr) (fun i _ => n - (intOf i).toNat)
  case atStart => exact ⟨0, Nat.zero_le _, rfl, Below.refl _ _⟩
  case round =>
    obtain ⟨j, hj, rfl, hb⟩ := hrel
    by_cases hlt : j < n
    · have hjL : j < L.length := by rw [hL.out]; exact hlt
      obtain ⟨b, o, e⟩ := h.place (by intro e; rw [e] at hjL; simp at hjL)
      subst e
      have hr := h.below hb
      obtain ⟨x0, x1⟩ := hr.one j hjL
      have hpn := hno.out _ (List.getElem_mem hjL)
      replace hr := hid hr
      generalize L[j].num = X at x0 hpn
      generalize L[j].a = ka at x1
      generalize L[j].body.length = kn at x1
      generalize L[j].c = kc at x1
      have hq2 : wr.cell? ⟨q, 0, none⟩ = some (.int .i64 t) := by rw [hb.cell (p := ⟨q, 0, none⟩) (World.block_lt_of_cell? w _ hq)]; exact hq
      replace hq2 := hid hq2
      replace hpn := hid hpn
      go_wp2_with fail
      refine (pred_w q t X _ _ hq2.out).mono ?_
      rintro e w2 ⟨rfl, hb2⟩
      rw [hpn.out]
      go_wp2_with fail
      go_roundw
      case rel => exact ⟨j + 1, by omega, by go_num, bnext hb hb2⟩
      case measure => simp [intOf]; omega
    · obtain rfl : j = n := by omega
      go_wp2
      go_ret
      exact ⟨rfl, hb⟩

set_option maxRecDepth 100000 in
set_option maxHeartbeats 400000 in
theorem idx_w_some (a : Option Addr) (n c lo q i : Nat) (t : Int) (L : List KV) (w : World) (hL : L.length = n) (h : KAt w lo a L) (hn : n ≤ 3000000000000) (hq : w.cell? ⟨q, 0, none⟩ = some (.int .i64 t)) (hi : i < L.length) (hyes : (L[i].num == t) = true) (hno : ∀ j (h : j < i), ((L[j]).num == t) = false) :
    Calls Try.prog 67 #[.slice a n c, .func (.func 50) #[] #[.pointer (some ⟨q, 0, none⟩)]] w fun e w' => e = .returned (.int .i64 (i : Int)) ∧ Below w.heap.size w w' := by
  have hin : i < n := by omega
  replace hL := hid hL
  replace hno := hid hno
  replace hyes := hid hyes
  go_enter Try.func67, Try.ntmps67
  go_wp2_with fail
  go_loopw [8] (fun ii wr => ∃ j : Nat, j ≤ i ∧ ii = .int .i64 (j : Int) ∧ Below w.heap.size w wr) (fun ii _ => n - (intOf ii).toNat)
  case atStart => exact ⟨0, Nat.zero_le _, rfl, Below.refl _ _⟩
  case round =>
    obtain ⟨j, hj, rfl, hb⟩ := hrel
    have hlt : j < n := by omega
    have hjL : j < L.length := by rw [hL.out]; exact hlt
    obtain ⟨b, o, e⟩ := h.place (by intro e; rw [e] at hjL; simp at hjL)
    subst e
    have hr := h.below hb
    obtain ⟨x0, x1⟩ := hr.one j hjL
    have hq2 : wr.cell? ⟨q, 0, none⟩ = some (.int .i64 t) := by rw [hb.cell (p := ⟨q, 0, none⟩) (World.block_lt_of_cell? w _ hq)]; exact hq
    replace hr := hid hr
    replace hq2 := hid hq2
    generalize L[j].a = ka at x1
    generalize L[j].body.length = kn at x1
    generalize L[j].c = kc at x1
    by_cases hji : j = i
    · have hpn : Hid ((L[j].num == t) = true) := by subst hji; exact hyes
      generalize L[j].num = X at x0 hpn
      replace hji := hid hji
      go_wp2_with fail
      refine (pred_w q t X _ _ hq2.out).mono ?_
      rintro e w2 ⟨rfl, hb2⟩
      rw [hpn.out]
      go_wp2
      go_ret
      exact ⟨by rw [hji.out]; rfl, bnext hb hb2⟩
    · have hpn : Hid ((L[j].num == t) = false) := hid (hno.out j (by omega))
      generalize L[j].num = X at x0 hpn
      go_wp2_with fail
      refine (pred_w q t X _ _ hq2.out).mono ?_
      rintro e w2 ⟨rfl, hb2⟩
      rw [hpn.out]
      go_wp2_with fail
      go_roundw
      case rel => exact ⟨j + 1, by omega, by go_num, bnext hb hb2⟩
      case measure => simp [intOf]; omega

/-- What DeleteFunc leaves. -/
def DelPostw (base : Nat) (v : Value) (L : List KV) (t : Int) (w : World) (en : Ending) (w' : World) : Prop :=
  ∃ v', en = .returned v' ∧ w'.ownsRow base 69 2 v' (L.filter fun k => !(k.num == t)).length ((L.filter fun k => !(k.num == t)).flatMap KV.cells) ∧ Kp (fun g => v.ownBlock = some g) w w' ∧ v'.ownBlock = v.ownBlock

set_option maxRecDepth 100000 in
set_option maxHeartbeats 400000 in
theorem del_w_none (a : Option Addr) (n c lo q base : Nat) (t : Int) (L : List KV) (w : World) (hL : L.length = n) (h : KAt w lo a L) (hn : n ≤ 3000000000000) (hown : w.ownsRow base 69 2 (.slice a n c) n (L.flatMap KV.cells)) (hq : w.cell? ⟨q, 0, none⟩ = some (.int .i64 t)) (hno : ∀ k ∈ L, (k.num == t) = false) :
    Calls Try.prog 51 #[.slice a n c, .func (.func 50) #[] #[.pointer (some ⟨q, 0, none⟩)]] w (DelPostw base (.slice a n c) L t w) := by
  replace hown := hid hown
  replace hL := hid hL
  go_enter Try.func51, Try.ntmps51
  go_wp2_with fail
  refine (idx_w_none a n c lo q t L _ hL.out h hn hq hno).mono ?_
  rintro e w2 ⟨rfl, hb2⟩
  replace hno := hid hno
  go_wp2
  go_ret
  have hf : (L.filter fun k => !(k.num == t)) = L := List.filter_eq_self.2 (fun k hk => by rw [hno.out k hk]; rfl)
  refine ⟨_, rfl, ?_, Kp.of_below hb2, rfl⟩
  rw [hf, hL.out]
  exact owns_below hown.out hb2

set_option maxRecDepth 100000 in
set_option maxHeartbeats 1000000 in
theorem del_w_some (g n c q i base : Nat) (t : Int) (L : List KV) (cur : Array Value) (w : World) (hL : L.length = n) (hn : n ≤ 3000000000000) (hb0 : base ≤ g) (hcs : cur.size = c * 2) (hg : w.heap[g]? = some (.cells cur 69 (0, 0))) (ht : cur.toList.take (n * 2) = L.flatMap KV.cells) (hnc : n ≤ c) (hcm : c ≤ maxLen) (h : KAt w base (some ⟨g, 0, none⟩) L) (hqg : q ≠ g) (hq : w.cell? ⟨q, 0, none⟩ = some (.int .i64 t)) (hi : i < L.length) (hyes : (L[i].num == t) = true) (hno : ∀ j (h : j < i), ((L[j]).num == t) = false) :
    Calls Try.prog 51 #[.slice (some ⟨g, 0, none⟩) n c, .func (.func 50) #[] #[.pointer (some ⟨q, 0, none⟩)]] w (DelPostw base (.slice (some ⟨g, 0, none⟩) n c) L t w) := by
  have hin : i < n := by omega
  have hstart : DelI 69 (fun x => x == t) L g c w i (i + 1) := by
    have hF : (L.take i).filter (fun k => !(k.num == t)) = L.take i := List.filter_eq_self.2 (fun k hk => by
      obtain ⟨j, hj, rfl⟩ := List.getElem_of_mem hk
      have hj' : j < i := by simp at hj; omega
      rw [List.getElem_take]
      rw [hno j hj']; rfl)
    refine ⟨L.take i, L[i].cells, cur.toList.drop (n * 2), ?_, by simp; omega, by simp [KV.cells], by omega, ?_, ?_⟩
    · rw [filter_take_drop hi (fun x => x == t) hyes]; exact hF.symm
    · have e1 : (L.take i).flatMap KV.cells ++ L[i].cells ++ (L.drop (i + 1)).flatMap KV.cells = L.flatMap KV.cells := by
        conv => rhs; rw [← List.take_append_drop i L, List.flatMap_append, flat_drop hi]
        simp [KV.cells]
      rw [e1, ← ht, List.take_append_drop]
      exact hg
    · rw [List.length_drop, Array.length_toList, hcs, hL, Nat.sub_mul]
  have hzv : ∀ w, (zeroValue 69).run Try.prog w = .ok (.agg #[.int .i64 0, .slice none 0 0]) w := fun w => by
    obtain ⟨i0, hi0, hz0, hz1, hz2⟩ := info_parts info69z
    simp [zeroValue, typeInfo, hi0, hz0]
  have hqw := World.block_lt_of_cell? w _ hq
  have hc63 : c ≤ 9223372036854775807 := by unfold maxLen at hcm; omega
  replace hL := hid hL
  replace hg := hid hg
  replace ht := hid ht
  replace hcs := hid hcs
  replace hcm := hid hcm
  replace hstart := hid hstart
  go_enter Try.func51, Try.ntmps51
  go_wp2_with fail
  refine (idx_w_some (some ⟨g, 0, none⟩) n c base q i t L _ hL.out h hn hq hi hyes hno).mono ?_
  rintro e w2 ⟨rfl, hb2⟩
  have hst2 : DelI 69 (fun x => x == t) L g c w2 i (i + 1) := by
    obtain ⟨F, mid, spare, a1, a2, a3, a4, a5, a6⟩ := hstart.out
    exact ⟨F, mid, spare, a1, a2, a3, a4, by rw [hb2.block g (Array.getElem?_eq_some_iff.1 a5).1]; exact a5, a6⟩
  replace hst2 := hid hst2
  replace hno := hid hno
  replace hyes := hid hyes
  replace h := hid h
  have hne1 : ¬ ((i : Int) = -1) := by omega
  have hne2 : ((i : Int) == -1) = false := by simp
  go_wp2_with fail
  go_loopw [5, 6] (fun ii jj wr => ∃ i' j : Nat, j ≤ n ∧ ii = .int .i64 (i' : Int) ∧ jj = .int .i64 (j : Int) ∧ Hid (DelI 69 (fun x => x == t) L g c wr i' j) ∧ Kp (fun k => some g = some k) w wr) (fun _ jj _ => n - (intOf jj).toNat)
  case atStart => exact ⟨i, i + 1, by omega, rfl, by go_num, hst2, Kp.of_below hb2⟩
  case round =>
    obtain ⟨i', j, hj, rfl, rfl, hD, hK⟩ := hrel
    have hij : i' < j := by obtain ⟨_, _, _, _, _, _, h, _⟩ := hD.out; exact h
    by_cases hlt : j < n
    · have hjL : j < L.length := by rw [hL.out]; exact hlt
      obtain ⟨x0, x1⟩ := hD.out.read hjL
      have hq3 : wr.cell? ⟨q, 0, none⟩ = some (.int .i64 t) := by
        rw [World.cell?_of_block (w := w) (a := ⟨q, 0, none⟩) (hK.block q hqw (fun e => hqg (Option.some.inj e).symm))]; exact hq
      have hkeep := fun w5 hb hp => hid (hD.out.keep (w2 := w5) hb hjL hp)
      have hdrop := fun w5 hb hp => hid (hD.out.drop (w2 := w5) hb hjL hp)
      generalize L[j].num = X at x0 hkeep hdrop
      generalize L[j].a = ka at x1 hkeep
      generalize L[j].body.length = kn at x1 hkeep
      generalize L[j].c = kc at x1 hkeep
      replace hkeep := hid hkeep
      replace hdrop := hid hdrop
      have b4 := below_lit wr (.cells #[.int .i64 X, .slice ka kn kc] 69)
      have T4 := TBlk.new 69 wr (.int .i64 X) (.slice ka kn kc)
      have hq4 : (wr.alloc (.cells #[.int .i64 X, .slice ka kn kc] 69)).cell? ⟨q, 0, none⟩ = some (.int .i64 t) := by rw [b4.cell (p := ⟨q, 0, none⟩) (World.block_lt_of_cell? wr _ hq3)]; exact hq3
      replace hq4 := hid hq4
      replace hq3 := hid hq3
      replace T4 := hid T4
      go_wp2_with fail
      refine (pred_w q t X _ _ hq4.out).mono ?_
      rintro e w5 ⟨rfl, hb5⟩
      have B5 := bnext b4 hb5
      by_cases hp : (X == t) = true
      · rw [hp]
        have hD2 := hdrop.out w5 B5 hp
        go_wp2_with fail
        go_roundw
        case rel => exact ⟨i', j + 1, by omega, rfl, by go_num, hD2, hK.then B5⟩
        case measure => simp [intOf]; omega
      · replace hp : (X == t) = false := by simpa using hp
        rw [hp]
        obtain ⟨m0, m1, y0, y1, fz, hD2⟩ := (hkeep.out w5 B5 hp).out
        have T5 := T4.out.below hb5
        have c0 := T5.cell0
        have c1 := T5.cell1
        have f0 := fz (i' * 2)
        have f1 := fz (i' * 2 + 1)
        replace hD2 := hid hD2
        replace hp := hid hp
        replace T5 := hid T5
        clear fz
        go_wp2_with fail
        go_roundw
        case rel => exact ⟨i' + 1, j + 1, by omega, by go_num, by go_num, hD2, ((hK.then B5).setCell (p := ⟨g, i' * 2, none⟩) rfl _).setCell (p := ⟨g, i' * 2 + 1, none⟩) rfl _⟩
        case measure => simp [intOf]; omega
    · obtain rfl : j = n := by omega
      have hDn := hD.out
      rw [← hL.out] at hDn
      obtain ⟨cur2, hg2, hfit, hrow, hlen⟩ := hDn.done (base := base) (by rw [hL.out]; exact hnc) hcm.out hb0
      rw [hL.out] at hfit hrow
      have hcl := fun ty c' => run_clear_rowk (P := Try.prog) wr 39 69 ty _ Try.underlying39 hzv g (i' * 2) (j - i') c' (by omega) cur2 hg2 hfit (zeros_one _)
      obtain ⟨new, hnew⟩ : ∃ new, new = (cur2.toList.take (i' * 2) ++ (Builtin.zeroCells (Value.cells (.agg #[.int .i64 0, .slice none 0 0])) (j - i')).toList ++ cur2.toList.drop (i' * 2 + (Builtin.zeroCells (Value.cells (.agg #[.int .i64 0, .slice none 0 0])) (j - i')).toList.length)).toArray := ⟨_, rfl⟩
      rw [← hnew] at hrow hcl
      have hK2 := hK.trans (kp_setRow (w := wr) (g := g) new)
      have hne3 : ¬ (c = i') := by omega
      replace hrow := hid hrow
      replace hK2 := hid hK2
      replace hlen := hid hlen
      clear hfit hg2 hnew hDn
      go_wp2
      go_ret
      refine ⟨_, rfl, ?_, hK2.out, rfl⟩
      rw [hlen.out]
      exact hrow.out

theorem del_w (a : Option Addr) (n c q base : Nat) (t : Int) (L : List KV) (w : World) (hL : L.length = n) (hn : n ≤ 3000000000000) (h : KOwn 69 w base (.slice a n c) L) (hqg : (Value.slice a n c).ownBlock ≠ some q) (hq : w.cell? ⟨q, 0, none⟩ = some (.int .i64 t)) :
    Calls Try.prog 51 #[.slice a n c, .func (.func 50) #[] #[.pointer (some ⟨q, 0, none⟩)]] w fun e w' => ∃ v', e = .returned v' ∧ KOwn 69 w' base v' (L.filter fun k => !(k.num == t)) ∧ Kp (fun g => (Value.slice a n c).ownBlock = some g) w w' ∧ v'.ownBlock = (Value.slice a n c).ownBlock := by
  have key : Calls Try.prog 51 #[.slice a n c, .func (.func 50) #[] #[.pointer (some ⟨q, 0, none⟩)]] w (DelPostw base (.slice a n c) L t w) := by
    by_cases hno : ∀ k ∈ L, (k.num == t) = false
    · exact del_w_none a n c base q base t L w hL h.kat hn (by have := h.row; rwa [hL] at this) hq hno
    · have hex : ∃ k ∈ L, (k.num == t) = true := by
        apply Classical.byContradiction
        intro hc
        refine hno (fun k hk => ?_)
        cases hb : (k.num == t) with
        | false => rfl
        | true => exact absurd ⟨k, hk, hb⟩ hc
      have hi := List.findIdx_lt_length_of_exists (p := fun k : KV => k.num == t) hex
      rcases h.row.2 with ⟨_, h0⟩ | ⟨g, cap, cur, hh, hb, hg, hc, hcm, hs, ht⟩
      · rw [h0] at hi; omega
      · simp only [Value.slice.injEq] at hh
        obtain ⟨rfl, _, rfl⟩ := hh
        rw [hL] at ht hc
        exact del_w_some g n c q _ base t L cur w hL hn hb hs hg ht hc hcm h.kat (fun e => hqg (by rw [e]; rfl)) hq hi (List.findIdx_getElem (w := hi)) (fun j hj => by have := List.not_of_lt_findIdx hj; simpa using this)
  refine key.mono ?_
  rintro e w' ⟨v', rfl, hr, hk, hv⟩
  refine ⟨v', rfl, ⟨hr, fun k hk' => ?_, fun k hk' => h.short k ((List.mem_filter.1 hk').1)⟩, hk, hv⟩
  exact (h.own k ((List.mem_filter.1 hk').1)).kp hk (fun g hg => own_off (h.own k ((List.mem_filter.1 hk').1)) h.row (by decide) g hg)

end Go.Proofs.Ythjggjjocfbjcaa
