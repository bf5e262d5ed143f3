/- slices.Insert of one client, and of one request that is kept. -/
import Derived.Test.YthjggjjocfbjcaaRowk
namespace Go.Proofs.Ythjggjjocfbjcaa
open Go.RowKit

theorem drew_below (w : World) : Below w.heap.size w w.drew := (Below.refl _ w).drew

/-- What Insert leaves. -/
def InsPost (e k : Nat) (base : Nat) (v : Value) (n : Nat) (ys : List Value) (w : World) (en : Ending) (w' : World) : Prop :=
  ∃ v', en = .returned v' ∧ w'.ownsRow base e k v' (n + 1) ys ∧ Kp (fun g => v.ownBlock = some g) w w' ∧ ∀ g, v'.ownBlock = some g → v.ownBlock = some g ∨ w.heap.size ≤ g

theorem ins_one (cur xs new : List Value) (I NK k : Nat) (hx : xs.length = NK) (ht : cur.take NK = xs) (hnl : new.length = k) (hI : I + k ≤ NK) (hc : NK + k ≤ cur.length) :
    ∃ cur1, cur1 = cur.take (I + k) ++ xs.drop I ++ cur.drop (I + k + (xs.drop I).length) ∧ cur1.length = cur.length ∧ (cur1.take I ++ new ++ cur1.drop (I + new.length)).length = cur.length ∧ (cur1.take I ++ new ++ cur1.drop (I + new.length)).take (NK + k) = xs.take I ++ new ++ xs.drop I := by
  have hxl : (xs.drop I).length = NK - I := by simp [hx]
  have hA : (cur.take (I + k)).length = I + k := by simp; omega
  have hl : (cur.take (I + k) ++ xs.drop I ++ cur.drop (I + k + (xs.drop I).length)).length = cur.length := by
    simp only [List.length_append, List.length_drop, hA, hx]; omega
  refine ⟨_, rfl, hl, ?_, ?_⟩
  · simp only [List.length_append, List.length_drop, List.length_take, hx, hnl] at hl ⊢; omega
  · have e1 : (cur.take (I + k) ++ xs.drop I ++ cur.drop (I + k + (xs.drop I).length)).take I = xs.take I := by
      rw [List.append_assoc, List.take_append_of_le_length (by omega), List.take_take, Nat.min_eq_left (by omega), ← ht, List.take_take, Nat.min_eq_left (by omega)]
    have e2 : (cur.take (I + k) ++ xs.drop I ++ cur.drop (I + k + (xs.drop I).length)).drop (I + new.length) = xs.drop I ++ cur.drop (I + k + (xs.drop I).length) := by
      rw [List.append_assoc, hnl, List.drop_append_of_le_length (by omega), List.drop_eq_nil_of_le (by omega), List.nil_append]
    rw [e1, e2, ← List.append_assoc]
    have hl2 : (xs.take I ++ new ++ xs.drop I).length = NK + k := by
      simp only [List.length_append, List.length_take, hx, hnl, hxl]; omega
    rw [List.take_append_of_le_length (by omega), List.take_of_length_le (by omega)]

theorem ins_two (R xs new : List Value) (I NK k : Nat) (hx : xs.length = NK) (ht : R.take I = xs.take I) (hnl : new.length = k) (hI : I + k ≤ NK) (hc : NK + k ≤ R.length) :
    ∃ R1, R1 = R.take I ++ new ++ R.drop (I + new.length) ∧ R1.length = R.length ∧ (R1.take (I + k) ++ xs.drop I ++ R1.drop (I + k + (xs.drop I).length)).length = R.length ∧ (R1.take (I + k) ++ xs.drop I ++ R1.drop (I + k + (xs.drop I).length)).take (NK + k) = xs.take I ++ new ++ xs.drop I := by
  have hxl : (xs.drop I).length = NK - I := by simp [hx]
  have hA : (R.take I ++ new).length = I + k := by simp [hnl]; omega
  have hl : (R.take I ++ new ++ R.drop (I + new.length)).length = R.length := by
    rw [List.length_append, hA, List.length_drop, hnl]; omega
  refine ⟨_, rfl, hl, ?_, ?_⟩
  · simp only [List.length_append, List.length_drop, List.length_take, hx, hnl] at hl ⊢; omega
  · have e1 : (R.take I ++ new ++ R.drop (I + new.length)).take (I + k) = xs.take I ++ new := by
      rw [List.take_append_of_le_length (by omega), List.take_of_length_le (by omega), ht]
    rw [e1]
    have hl2 : (xs.take I ++ new ++ xs.drop I).length = NK + k := by
      simp only [List.length_append, List.length_take, hx, hnl, hxl]; omega
    rw [List.take_append_of_le_length (by omega), List.take_of_length_le (by omega)]

set_option maxRecDepth 100000 in
set_option maxHeartbeats 4000000 in
theorem insert_c_end (a : Option Addr) (n c vb : Nat) (xs new : List Value) (w : World) (base : Nat) (hn : n ≤ 16) (hown : w.ownsRow base 34 3 (.slice a n c) n xs) (hbase : base ≤ w.heap.size)
    (hv : w.heap[vb]? = some (.cells new.toArray 34 (0, 0))) (hnl : new.length = 3) (h1 : ∀ u ∈ new, u.oneCell' = true) :
    Calls Try.prog 39 #[.slice a n c, .int .i64 n, .slice (some ⟨vb, 0, none⟩) 1 1] w (InsPost 34 3 base (.slice a n c) n (xs ++ new) w) := by
  obtain ⟨i0, hi0, hz0, hz1, hz2⟩ := info_parts info34z
  have hcat : CAt w (some ⟨vb, 0, none⟩) new := fun _ => ⟨vb, 0, rfl, fun i hi => by simp [World.cell?, hv, hi]⟩
  have hnc : n ≤ c := by obtain ⟨_, _, hh, hc⟩ := owns_form hown; cases hh; exact hc
  replace hv := hid hv
  replace hnl := hid hnl
  replace h1 := hid h1
  replace hown := hid hown
  replace hcat := hid hcat
  have hnil : a = none → n = 0 ∧ c = 0 := fun e => by
    rcases hown.out.2 with ⟨hh, h0⟩ | ⟨g, cap, cur, hh, _⟩
    · cases hh; exact ⟨rfl, rfl⟩
    · rw [e] at hh; cases hh
  cases a with
  | none =>
    obtain ⟨rfl, rfl⟩ := hnil rfl
    go_enter Try.func39, Try.ntmps39
    go_wp2_with (at_builtin; refine wpList_cat _ rfl (.tmp 23) (.tmp 24) 22 rfl base 34 i0 _ 3 40 Try.underlying22 hi0 hz0 hz1 hz2 rfl (by omega) _ 0 xs rfl hown.out (some ⟨vb, 0, none⟩) 1 1 new rfl (by rw [hnl.out]) hcat.out h1.out (by unfold maxLen; omega) (by omega) hbase ?_; intro v7 w7 hr7 hg7 hv7)
    go_ret
    exact ⟨v7, rfl, hr7, Kp.grown hg7, fun g hg => by rcases hv7 with e | e <;> rw [e] at hg; exact .inl hg; exact .inr (Nat.le_of_eq (Option.some.inj hg))⟩
  | some x =>
    have hx : ∃ g, x = ⟨g, 0, none⟩ := by
      rcases hown.out.2 with ⟨hh, h0⟩ | ⟨g, cap, cur, hh, _⟩
      · cases hh
      · cases hh; exact ⟨g, rfl⟩
    obtain ⟨g, rfl⟩ := hx
    clear hnil
    go_enter Try.func39, Try.ntmps39
    go_wp2_with (at_builtin; refine wpList_cat _ rfl (.tmp 23) (.tmp 24) 22 rfl base 34 i0 _ 3 40 Try.underlying22 hi0 hz0 hz1 hz2 rfl (by omega) _ n xs rfl hown.out (some ⟨vb, 0, none⟩) 1 1 new rfl (by rw [hnl.out]) hcat.out h1.out (by unfold maxLen; omega) (by omega) hbase ?_; intro v7 w7 hr7 hg7 hv7)
    all_goals
      go_ret
      exact ⟨v7, rfl, hr7, Kp.grown hg7, fun g hg => by rcases hv7 with e | e <;> rw [e] at hg; exact .inl hg; exact .inr (Nat.le_of_eq (Option.some.inj hg))⟩

set_option maxRecDepth 100000 in
set_option maxHeartbeats 4000000 in
theorem insert_c_room (g n c i vb : Nat) (cur : Array Value) (xs new : List Value) (w : World) (base : Nat) (hn : n ≤ 16) (hi : i < n) (hnc : n + 1 ≤ c) (hcm : c ≤ maxLen) (hb : base ≤ g) (hcs : cur.size = c * 3) (hg : w.heap[g]? = some (.cells cur 34 (0, 0))) (hxl : xs.length = n * 3) (ht : cur.toList.take (n * 3) = xs)
    (hv : w.heap[vb]? = some (.cells new.toArray 34 (0, 0))) (hnl : new.length = 3) (hne : vb ≠ g) (h1 : ∀ u ∈ new, u.oneCell' = true) (h1x : ∀ u ∈ xs, u.oneCell' = true) :
    Calls Try.prog 39 #[.slice (some ⟨g, 0, none⟩) n c, .int .i64 i, .slice (some ⟨vb, 0, none⟩) 1 1] w (InsPost 34 3 base (.slice (some ⟨g, 0, none⟩) n c) n (xs.take (i * 3) ++ new ++ xs.drop (i * 3)) w) := by
  have hz2 : ¬ ((i : Int) = (n : Int)) := by omega
  have hc1 : ¬ (c = i + 1) := by omega
  have hc2 : ¬ (c = i) := by omega
  have hc63 : c ≤ 9223372036854775807 := by unfold maxLen at hcm; omega
  have hw1 : IntKind.i64.wrap ((i : Int) + 1) = (i : Int) + 1 := by rw [IntKind.wrap_i64]; omega
  have hb1 : (0 : Int) ≤ (i : Int) + 1 := by omega
  have hin : i ≤ n := by omega
  have htn : ((i : Int) + 1).toNat = i + 1 := by omega
  have hb3 : (i : Int) ≤ (n : Int) + 1 := by omega
  obtain ⟨cur1, hcur1, hl1, hl2, ht2⟩ := ins_one cur.toList xs new (i * 3) (n * 3) 3 hxl ht hnl (by omega) (by simp; omega)
  have hov : ∀ lb cb, (callFunc 61 #[.slice (some ⟨vb, 0, none⟩) 1 1, .slice (some ⟨g, (i + 1) * 3, none⟩) lb cb]).run Try.prog w = .ok (.value (.bool false)) w := fun lb cb => by
    rw [run_callFunc_extern Try.func61 (by kernel_rfl) (by kernel_rfl) (by kernel_rfl) (e := Extern.SlicesOverlaps.overlaps #[22, 22] #[4]) (by kernel_rfl),
      Lib.run_overlaps_apart w 22 4 34 Try.underlying22 3 (fun w => by obtain ⟨i0, hi0, hz0, hz1, hz2⟩ := info_parts info34z; simp [sizeOf, typeInfo, hi0, hz1]) ⟨vb, 0, none⟩ ⟨g, (i + 1) * 3, none⟩ 1 1 lb cb hne 34 34 3 (c * 3) (by simp [World.shape?, hv, hnl]) (by simp [World.shape?, hg, hcs]) (by omega) (by simp [World.frozen?, hv]) (by simp [World.frozen?, hv])]
    rfl
  have hcp1 : ∀ ty dl dc sl sc, Nat.min sl dl = n - i → (Builtin.copy_ #[22, 22] ty #[.slice (some ⟨g, (i + 1) * 3, none⟩) dl dc, .slice (some ⟨g, i * 3, none⟩) sl sc]).run Try.prog w.drew = .ok (goInt ((n - i : Nat) : Int)) (w.drew.setRow g cur1.toArray) := fun ty dl dc sl sc hm => by
    have h := run_copy_rowk (P := Try.prog) w.drew 22 22 ty 34 3 g ((i + 1) * 3) dl dc ⟨g, i * 3, none⟩ sl sc cur 34 (xs.drop (i * 3)) Try.underlying22 size34 hg (by rw [hm, List.length_drop, hxl, Nat.sub_mul]) (fun j v hj => by
      rw [Addr.add_lit]
      rw [List.getElem?_drop, ← ht, List.getElem?_take] at hj
      split at hj
      · have e : (w.drew).cell? ⟨g, i * 3 + j, none⟩ = cur[i * 3 + j]? := by
          show w.cell? _ = _
          simp [World.cell?, hg]
        rw [e]; simpa using hj
      · cases hj) (by rw [List.length_drop, hxl, hcs]; omega) (fun v hv => h1x v (List.mem_of_mem_drop hv))
    rw [hm] at h
    rw [h, hcur1, Nat.add_mul, Nat.one_mul]
  have hcp2 : ∀ (W : World), W.heap[g]? = some (.cells cur1.toArray 34 (0, 0)) → W.heap[vb]? = some (.cells new.toArray 34 (0, 0)) → ∀ ty dl dc, 1 ≤ dl → (Builtin.copy_ #[22, 22] ty #[.slice (some ⟨g, i * 3, none⟩) dl dc, .slice (some ⟨vb, 0, none⟩) 1 1]).run Try.prog W = .ok (goInt 1) (W.setRow g (cur1.take (i * 3) ++ new ++ cur1.drop (i * 3 + new.length)).toArray) := fun W hW hWv ty dl dc hm => by
    have hmin : Nat.min 1 dl = 1 := by simp only [Nat.min_def]; split <;> omega
    have h := run_copy_rowk (P := Try.prog) W 22 22 ty 34 3 g (i * 3) dl dc ⟨vb, 0, none⟩ 1 1 cur1.toArray 34 new Try.underlying22 size34 hW (by rw [hmin, hnl]) (fun j v hj => by
      rw [Addr.add_lit, Nat.zero_add]
      simp [World.cell?, hWv, hj]) (by rw [hnl]; simp [hl1]; omega) h1
    rw [hmin] at h
    exact h
  have W1g : (w.drew.setRow g cur1.toArray).heap[g]? = some (.cells cur1.toArray 34 (0, 0)) := setRow_heap w.drew g cur _ 34 _ hg
  have W1v : (w.drew.setRow g cur1.toArray).heap[vb]? = some (.cells new.toArray 34 (0, 0)) := by
    rw [setRow_other w.drew g vb _ hne]; exact hv
  have hfin := owns_set (w := w.drew.setRow g cur1.toArray) (base := base) (e := 34) (k := 3) (n' := n + 1) (c := c) (new := (cur1.take (i * 3) ++ new ++ cur1.drop (i * 3 + new.length)).toArray) (xs := xs.take (i * 3) ++ new ++ xs.drop (i * 3)) W1g hb hnc hcm (by rw [List.size_toArray, hl2]; simpa using hcs) (by simp only [List.length_append, List.length_take, List.length_drop, hxl, hnl]; omega) (by rw [show (n + 1) * 3 = n * 3 + 3 by omega]; simpa using ht2)
  have hkp : Kp (fun k => some g = some k) w ((w.drew.setRow g cur1.toArray).setRow g (cur1.take (i * 3) ++ new ++ cur1.drop (i * 3 + new.length)).toArray) := (Kp.trans (Kp.of_below (drew_below w)) (kp_setRow _)).trans (kp_setRow _)
  obtain ⟨c2, hc2⟩ : ∃ c2, c2 = (cur1.take (i * 3) ++ new ++ cur1.drop (i * 3 + new.length)).toArray := ⟨_, rfl⟩
  obtain ⟨c1, hc1'⟩ : ∃ c1, c1 = cur1.toArray := ⟨_, rfl⟩
  rw [← hc1'] at hcp1 hcp2 W1g W1v hfin hkp
  rw [← hc2] at hcp2 hfin hkp
  obtain ⟨ys, hys⟩ : ∃ ys, ys = xs.take (i * 3) ++ new ++ xs.drop (i * 3) := ⟨_, rfl⟩
  rw [← hys] at hfin ⊢
  replace hg := hid hg
  replace hv := hid hv
  replace hxl := hid hxl
  replace ht := hid ht
  replace hcs := hid hcs
  replace hnl := hid hnl
  replace W1g := hid W1g
  replace W1v := hid W1v
  replace hfin := hid hfin
  replace hkp := hid hkp
  replace hcp1 := hid hcp1
  replace hcp2 := hid hcp2
  clear hcur1 hl1 hl2 ht2 hc2 hc1' hys
  go_enter Try.func39, Try.ntmps39
  go_wp2_with (simp only [hov])
  have hq1 := hcp1.out 3 (n - i) (c - (i + 1)) (n + 1 - i) (c - i) (by simp only [Nat.min_def]; split <;> omega)
  go_region
  have hq2 := hcp2.out _ W1g.out W1v.out 3 (n + 1 - i) (c - i) (by omega)
  go_wp2
  go_ret
  exact ⟨_, rfl, hfin.out, hkp.out, fun g' h => .inl h⟩

set_option maxRecDepth 100000 in
set_option maxHeartbeats 4000000 in
theorem insert_c_grow (g n c i vb : Nat) (cur : Array Value) (xs new : List Value) (w : World) (base : Nat) (hn : n ≤ 16) (hi : i < n) (hnc : n ≤ c) (hroom : c < n + 1) (hbase : base ≤ w.heap.size) (hg : w.heap[g]? = some (.cells cur 34 (0, 0))) (hxl : xs.length = n * 3) (ht : cur.toList.take (n * 3) = xs)
    (hv : w.heap[vb]? = some (.cells new.toArray 34 (0, 0))) (hnl : new.length = 3) (h1 : ∀ u ∈ new, u.oneCell' = true) (h1x : ∀ u ∈ xs, u.oneCell' = true) :
    Calls Try.prog 39 #[.slice (some ⟨g, 0, none⟩) n c, .int .i64 i, .slice (some ⟨vb, 0, none⟩) 1 1] w (InsPost 34 3 base (.slice (some ⟨g, 0, none⟩) n c) n (xs.take (i * 3) ++ new ++ xs.drop (i * 3)) w) := by
  obtain ⟨i0, hi0, hz0, hzs, hzb⟩ := info_parts info34z
  have hz2 : ¬ ((i : Int) = (n : Int)) := by omega
  have hz3 : (c : Int) < (n : Int) + 1 := by omega
  have hw1 : IntKind.i64.wrap ((i : Int) + 1) = (i : Int) + 1 := by rw [IntKind.wrap_i64]; omega
  have hb1 : (0 : Int) ≤ (i : Int) + 1 := by omega
  have hin : i ≤ n := by omega
  have htn : ((i : Int) + 1).toNat = i + 1 := by omega
  have hb3 : (i : Int) ≤ (n : Int) + 1 := by omega
  have hci : ¬ (c = i) := by omega
  have hgw : g < w.heap.size := (Array.getElem?_eq_some_iff.1 hg).1
  have hvw : vb < w.heap.size := (Array.getElem?_eq_some_iff.1 hv).1
  have hcell : ∀ j v, xs[j]? = some v → w.cell? ⟨g, j, none⟩ = some v := fun j v hj => by
    rw [← ht, List.getElem?_take] at hj
    split at hj
    · simp [World.cell?, hg]; simpa using hj
    · cases hj
  have hold : (Builtin.firstCells i0.size i (.slice (some ⟨g, 0, none⟩) i c)).run Try.prog w.drew = .ok (xs.take (i * 3)).toArray w.drew := by
    rw [hzs]
    exact run_firstCells_some w.drew 3 i ⟨g, 0, none⟩ i c (xs.take (i * 3)) (by rw [List.length_take, hxl]; omega) (fun j v hj => by
      rw [Addr.add_lit, Nat.zero_add]
      rw [List.getElem?_take] at hj
      split at hj
      · exact hcell j v hj
      · cases hj)
  have hkk : (n : Int) + 1 - (i : Int) = ((n + 1 - i : Nat) : Int) := by omega
  have hik : i + (n + 1 - i) = n + 1 := by omega
  have hrz := Lib.run_append_grow_zeros (P := Try.prog) w 22 3 22 34 i0 _ .i64 .i64 Try.underlying22 Try.underlying3 hi0 hz0 (some ⟨g, 0, none⟩) i c (xs.take (i * 3)) hold (n + 1 - i) (by omega) (by omega) (by omega) (by omega) (by rw [hzb]; omega) (by rw [hzb, hik]; exact growslice_fits hroom (by omega))
  rw [hik, ← hkk] at hrz
  have hGn : n + 1 ≤ grownCap w (n + 1) c 34 := grownCap_ge w _ _ _
  have hGm : grownCap w (n + 1) c 34 ≤ maxLen := grownCap_le_maxLen w (n + 1) c 34 (by unfold maxLen; omega)
  generalize grownCap w (n + 1) c 34 = G at hrz hGn hGm
  obtain ⟨R, hR⟩ : ∃ R : List Value, R = ((xs.take (i * 3)).toArray ++ Builtin.zeroCells (Value.cells (.agg #[.int .i64 0, .int .i64 0, .slice none 0 0])) (n + 1 - i) ++ Builtin.zeroCells (Value.cells (.agg #[.int .i64 0, .int .i64 0, .slice none 0 0])) (G - (n + 1))).toList := ⟨_, rfl⟩
  have hR' : (xs.take (i * 3)).toArray ++ Builtin.zeroCells (Value.cells (.agg #[.int .i64 0, .int .i64 0, .slice none 0 0])) (n + 1 - i) ++ Builtin.zeroCells (Value.cells (.agg #[.int .i64 0, .int .i64 0, .slice none 0 0])) (G - (n + 1)) = R.toArray := by rw [hR]
  rw [hR'] at hrz
  have hRl : R.length = G * 3 := by
    rw [hR]
    have hz1 : (Value.cells (.agg #[.int .i64 0, .int .i64 0, .slice none 0 0])).size = 3 := rfl
    simp only [Array.toList_append, List.length_append, Array.length_toList, size_zeroCells, hz1, List.length_take, hxl]
    omega
  have hRt : R.take (i * 3) = xs.take (i * 3) := by
    rw [hR]
    simp only [Array.toList_append, List.append_assoc]
    have e : i * 3 = (xs.take (i * 3)).length := by rw [List.length_take, hxl]; omega
    rw [List.take_append_of_le_length (by omega), List.take_of_length_le (by omega)]
  obtain ⟨R1, hR1, hl1, hl2, ht2⟩ := ins_two R xs new (i * 3) (n * 3) 3 hxl hRt hnl (by omega) (by rw [hRl]; omega)
  obtain ⟨W1, hW1⟩ : ∃ W1, W1 = w.drew.alloc (.cells R.toArray 34) := ⟨_, rfl⟩
  rw [← hW1] at hrz
  have hW1g : W1.heap[w.heap.size]? = some (.cells R.toArray 34 (0, 0)) := by rw [hW1]; exact heap_alloc_new w.drew _
  have hB1 : Below w.heap.size w W1 := by rw [hW1]; exact (Below.refl _ w).drew.alloc (Nat.le_refl _) _
  have hW1v : W1.heap[vb]? = some (.cells new.toArray 34 (0, 0)) := by rw [hB1.block vb hvw]; exact hv
  have hq1 : (Builtin.copy_ #[22, 22] 3 #[.slice (some ⟨w.heap.size, i * 3, none⟩) (n + 1 - i) (G - i), .slice (some ⟨vb, 0, none⟩) 1 1]).run Try.prog W1 = .ok (goInt 1) (W1.setRow w.heap.size R1.toArray) := by
    have hmin : Nat.min 1 (n + 1 - i) = 1 := by simp only [Nat.min_def]; split <;> omega
    have h := run_copy_rowk (P := Try.prog) W1 22 22 3 34 3 w.heap.size (i * 3) (n + 1 - i) (G - i) ⟨vb, 0, none⟩ 1 1 R.toArray 34 new Try.underlying22 size34 hW1g (by rw [hmin, hnl]) (fun j v hj => by
      rw [Addr.add_lit, Nat.zero_add]
      simp [World.cell?, hW1v, hj]) (by rw [hnl]; simp [hRl]; omega) h1
    rw [hmin] at h
    rw [h, hR1]
    rfl
  obtain ⟨W2, hW2⟩ : ∃ W2, W2 = W1.setRow w.heap.size R1.toArray := ⟨_, rfl⟩
  rw [← hW2] at hq1
  have hW2g : W2.heap[w.heap.size]? = some (.cells R1.toArray 34 (0, 0)) := by rw [hW2]; exact setRow_heap W1 w.heap.size _ _ 34 _ hW1g
  have hB2 : Below w.heap.size w W2 := by rw [hW2]; exact below_setRow hB1 (Nat.le_refl _) _
  have hq2 : (Builtin.copy_ #[22, 22] 3 #[.slice (some ⟨w.heap.size, (i + 1) * 3, none⟩) (n - i) (G - (i + 1)), .slice (some ⟨g, i * 3, none⟩) (n - i) (c - i)]).run Try.prog W2.drew = .ok (goInt ((n - i : Nat) : Int)) (W2.drew.setRow w.heap.size (R1.take (i * 3 + 3) ++ xs.drop (i * 3) ++ R1.drop (i * 3 + 3 + (xs.drop (i * 3)).length)).toArray) := by
    have hmin : Nat.min (n - i) (n - i) = n - i := Nat.min_self _
    have h := run_copy_rowk (P := Try.prog) W2.drew 22 22 3 34 3 w.heap.size ((i + 1) * 3) (n - i) (G - (i + 1)) ⟨g, i * 3, none⟩ (n - i) (c - i) R1.toArray 34 (xs.drop (i * 3)) Try.underlying22 size34 hW2g (by rw [hmin, List.length_drop, hxl, Nat.sub_mul]) (fun j v hj => by
      rw [Addr.add_lit]
      rw [List.getElem?_drop] at hj
      show W2.cell? _ = _
      rw [hB2.cell (p := ⟨g, i * 3 + j, none⟩) hgw]
      exact hcell _ v hj) (by rw [List.length_drop, hxl]; simp [hl1, hRl]; omega) (fun v hv => h1x v (List.mem_of_mem_drop hv))
    rw [hmin] at h
    rw [h]
    simp only [Nat.add_mul, Nat.one_mul]
  obtain ⟨R2, hR2⟩ : ∃ R2, R2 = (R1.take (i * 3 + 3) ++ xs.drop (i * 3) ++ R1.drop (i * 3 + 3 + (xs.drop (i * 3)).length)).toArray := ⟨_, rfl⟩
  have hfin := owns_set (w := W2.drew) (base := base) (e := 34) (k := 3) (n' := n + 1) (c := G) (new := (R1.take (i * 3 + 3) ++ xs.drop (i * 3) ++ R1.drop (i * 3 + 3 + (xs.drop (i * 3)).length)).toArray) (xs := xs.take (i * 3) ++ new ++ xs.drop (i * 3)) hW2g hbase hGn hGm (by rw [List.size_toArray, hl2, hRl]) (by simp only [List.length_append, List.length_take, List.length_drop, hxl, hnl]; omega) (by rw [show (n + 1) * 3 = n * 3 + 3 by omega]; simpa using ht2)
  rw [← hR2] at hq2 hfin
  have hkp : Below w.heap.size w (W2.drew.setRow w.heap.size R2) := below_setRow hB2.drew (Nat.le_refl _) _
  obtain ⟨ys, hys⟩ : ∃ ys, ys = xs.take (i * 3) ++ new ++ xs.drop (i * 3) := ⟨_, rfl⟩
  rw [← hys] at hfin ⊢
  have hGi : ¬ (G = i) := by omega
  have hGi1 : ¬ (G = i + 1) := by omega
  have hG63 : G ≤ 9223372036854775807 := by unfold maxLen at hGm; omega
  replace hfin := hid hfin
  replace hkp := hid hkp
  clear hv hg hxl ht hnl hcell hold hkk hik hR hR' hRl hRt hR1 hl1 hl2 ht2 hW1 hW1g hB1 hW1v hW2 hW2g hB2 hR2 hys hi0 hz0 hzs hzb h1 h1x hbase hGm
  go_enter Try.func39, Try.ntmps39
  replace hrz := hid hrz
  go_wp2_with (at_builtin; refine Hid.out ?_)
  refine hid ?_
  refine Lib.wpList_append_run _ rfl (.tmp 34) (.tmp 39) 22 3 rfl _ _ rfl rfl _ _ hrz.out ?_
  go_wp2
  go_region
  go_wp2
  go_ret
  refine ⟨_, rfl, hfin.out, Kp.of_below hkp.out, fun g' h => .inr ?_⟩
  exact Nat.le_of_eq (Option.some.inj h)

theorem insert_c (a : Option Addr) (n c i vb : Nat) (xs new : List Value) (w : World) (base : Nat) (hn : n ≤ 16) (hi : i ≤ n) (hown : w.ownsRow base 34 3 (.slice a n c) n xs) (hbase : base ≤ w.heap.size)
    (hv : w.heap[vb]? = some (.cells new.toArray 34 (0, 0))) (hnl : new.length = 3) (hne : (Value.slice a n c).ownBlock ≠ some vb) (h1 : ∀ u ∈ new, u.oneCell' = true) (h1x : ∀ u ∈ xs, u.oneCell' = true) :
    Calls Try.prog 39 #[.slice a n c, .int .i64 i, .slice (some ⟨vb, 0, none⟩) 1 1] w (InsPost 34 3 base (.slice a n c) n (xs.take (i * 3) ++ new ++ xs.drop (i * 3)) w) := by
  have hxl := hown.1
  rcases Nat.lt_or_ge i n with h | h
  · rcases hown.2 with ⟨hh, h0⟩ | ⟨g, cap, cur, hh, hb, hg, hc, hcm, hs, ht⟩
    · omega
    · simp only [Value.slice.injEq] at hh
      obtain ⟨rfl, _, rfl⟩ := hh
      rcases Nat.lt_or_ge c (n + 1) with hr | hr
      · exact insert_c_grow g n c i vb cur xs new w base hn h hc hr hbase hg hxl ht hv hnl h1 h1x
      · exact insert_c_room g n c i vb cur xs new w base hn h hr hcm hb hs hg hxl ht hv hnl (fun e => hne (by rw [e]; rfl)) h1 h1x
  · obtain rfl : i = n := by omega
    have := insert_c_end a i c vb xs new w base hn hown hbase hv hnl h1
    rwa [List.take_of_length_le (by omega), List.drop_eq_nil_of_le (by omega), List.append_nil]

set_option maxRecDepth 100000 in
set_option maxHeartbeats 4000000 in
theorem insert_k_end (a : Option Addr) (n c vb : Nat) (xs new : List Value) (w : World) (base : Nat) (hn : n ≤ 16) (hown : w.ownsRow base 36 2 (.slice a n c) n xs) (hbase : base ≤ w.heap.size)
    (hv : w.heap[vb]? = some (.cells new.toArray 36 (0, 0))) (hnl : new.length = 2) (h1 : ∀ u ∈ new, u.oneCell' = true) :
    Calls Try.prog 45 #[.slice a n c, .int .i64 n, .slice (some ⟨vb, 0, none⟩) 1 1] w (InsPost 36 2 base (.slice a n c) n (xs ++ new) w) := by
  obtain ⟨i0, hi0, hz0, hz1, hz2⟩ := info_parts info36z
  have hcat : CAt w (some ⟨vb, 0, none⟩) new := fun _ => ⟨vb, 0, rfl, fun i hi => by simp [World.cell?, hv, hi]⟩
  have hnc : n ≤ c := by obtain ⟨_, _, hh, hc⟩ := owns_form hown; cases hh; exact hc
  replace hv := hid hv
  replace hnl := hid hnl
  replace h1 := hid h1
  replace hown := hid hown
  replace hcat := hid hcat
  have hnil : a = none → n = 0 ∧ c = 0 := fun e => by
    rcases hown.out.2 with ⟨hh, h0⟩ | ⟨g, cap, cur, hh, _⟩
    · cases hh; exact ⟨rfl, rfl⟩
    · rw [e] at hh; cases hh
  cases a with
  | none =>
    obtain ⟨rfl, rfl⟩ := hnil rfl
    go_enter Try.func45, Try.ntmps45
    go_wp2_with (at_builtin; refine wpList_cat _ rfl (.tmp 23) (.tmp 24) 32 rfl base 36 i0 _ 2 32 Try.underlying32 hi0 hz0 hz1 hz2 rfl (by omega) _ 0 xs rfl hown.out (some ⟨vb, 0, none⟩) 1 1 new rfl (by rw [hnl.out]) hcat.out h1.out (by unfold maxLen; omega) (by omega) hbase ?_; intro v7 w7 hr7 hg7 hv7)
    go_ret
    exact ⟨v7, rfl, hr7, Kp.grown hg7, fun g hg => by rcases hv7 with e | e <;> rw [e] at hg; exact .inl hg; exact .inr (Nat.le_of_eq (Option.some.inj hg))⟩
  | some x =>
    have hx : ∃ g, x = ⟨g, 0, none⟩ := by
      rcases hown.out.2 with ⟨hh, h0⟩ | ⟨g, cap, cur, hh, _⟩
      · cases hh
      · cases hh; exact ⟨g, rfl⟩
    obtain ⟨g, rfl⟩ := hx
    clear hnil
    go_enter Try.func45, Try.ntmps45
    go_wp2_with (at_builtin; refine wpList_cat _ rfl (.tmp 23) (.tmp 24) 32 rfl base 36 i0 _ 2 32 Try.underlying32 hi0 hz0 hz1 hz2 rfl (by omega) _ n xs rfl hown.out (some ⟨vb, 0, none⟩) 1 1 new rfl (by rw [hnl.out]) hcat.out h1.out (by unfold maxLen; omega) (by omega) hbase ?_; intro v7 w7 hr7 hg7 hv7)
    all_goals
      go_ret
      exact ⟨v7, rfl, hr7, Kp.grown hg7, fun g hg => by rcases hv7 with e | e <;> rw [e] at hg; exact .inl hg; exact .inr (Nat.le_of_eq (Option.some.inj hg))⟩

set_option maxRecDepth 100000 in
set_option maxHeartbeats 4000000 in
theorem insert_k_room (g n c i vb : Nat) (cur : Array Value) (xs new : List Value) (w : World) (base : Nat) (hn : n ≤ 16) (hi : i < n) (hnc : n + 1 ≤ c) (hcm : c ≤ maxLen) (hb : base ≤ g) (hcs : cur.size = c * 2) (hg : w.heap[g]? = some (.cells cur 36 (0, 0))) (hxl : xs.length = n * 2) (ht : cur.toList.take (n * 2) = xs)
    (hv : w.heap[vb]? = some (.cells new.toArray 36 (0, 0))) (hnl : new.length = 2) (hne : vb ≠ g) (h1 : ∀ u ∈ new, u.oneCell' = true) (h1x : ∀ u ∈ xs, u.oneCell' = true) :
    Calls Try.prog 45 #[.slice (some ⟨g, 0, none⟩) n c, .int .i64 i, .slice (some ⟨vb, 0, none⟩) 1 1] w (InsPost 36 2 base (.slice (some ⟨g, 0, none⟩) n c) n (xs.take (i * 2) ++ new ++ xs.drop (i * 2)) w) := by
  have hz2 : ¬ ((i : Int) = (n : Int)) := by omega
  have hc1 : ¬ (c = i + 1) := by omega
  have hc2 : ¬ (c = i) := by omega
  have hc63 : c ≤ 9223372036854775807 := by unfold maxLen at hcm; omega
  have hw1 : IntKind.i64.wrap ((i : Int) + 1) = (i : Int) + 1 := by rw [IntKind.wrap_i64]; omega
  have hb1 : (0 : Int) ≤ (i : Int) + 1 := by omega
  have hin : i ≤ n := by omega
  have htn : ((i : Int) + 1).toNat = i + 1 := by omega
  have hb3 : (i : Int) ≤ (n : Int) + 1 := by omega
  obtain ⟨cur1, hcur1, hl1, hl2, ht2⟩ := ins_one cur.toList xs new (i * 2) (n * 2) 2 hxl ht hnl (by omega) (by simp; omega)
  have hov : ∀ lb cb, (callFunc 65 #[.slice (some ⟨vb, 0, none⟩) 1 1, .slice (some ⟨g, (i + 1) * 2, none⟩) lb cb]).run Try.prog w = .ok (.value (.bool false)) w := fun lb cb => by
    rw [run_callFunc_extern Try.func65 (by kernel_rfl) (by kernel_rfl) (by kernel_rfl) (e := Extern.SlicesOverlaps.overlaps #[32, 32] #[4]) (by kernel_rfl),
      Lib.run_overlaps_apart w 32 4 36 Try.underlying32 2 (fun w => by obtain ⟨i0, hi0, hz0, hz1, hz2⟩ := info_parts info36z; simp [sizeOf, typeInfo, hi0, hz1]) ⟨vb, 0, none⟩ ⟨g, (i + 1) * 2, none⟩ 1 1 lb cb hne 36 36 2 (c * 2) (by simp [World.shape?, hv, hnl]) (by simp [World.shape?, hg, hcs]) (by omega) (by simp [World.frozen?, hv]) (by simp [World.frozen?, hv])]
    rfl
  have hcp1 : ∀ ty dl dc sl sc, Nat.min sl dl = n - i → (Builtin.copy_ #[32, 32] ty #[.slice (some ⟨g, (i + 1) * 2, none⟩) dl dc, .slice (some ⟨g, i * 2, none⟩) sl sc]).run Try.prog w.drew = .ok (goInt ((n - i : Nat) : Int)) (w.drew.setRow g cur1.toArray) := fun ty dl dc sl sc hm => by
    have h := run_copy_rowk (P := Try.prog) w.drew 32 32 ty 36 2 g ((i + 1) * 2) dl dc ⟨g, i * 2, none⟩ sl sc cur 36 (xs.drop (i * 2)) Try.underlying32 size36 hg (by rw [hm, List.length_drop, hxl, Nat.sub_mul]) (fun j v hj => by
      rw [Addr.add_lit]
      rw [List.getElem?_drop, ← ht, List.getElem?_take] at hj
      split at hj
      · have e : (w.drew).cell? ⟨g, i * 2 + j, none⟩ = cur[i * 2 + j]? := by
          show w.cell? _ = _
          simp [World.cell?, hg]
        rw [e]; simpa using hj
      · cases hj) (by rw [List.length_drop, hxl, hcs]; omega) (fun v hv => h1x v (List.mem_of_mem_drop hv))
    rw [hm] at h
    rw [h, hcur1, Nat.add_mul, Nat.one_mul]
  have hcp2 : ∀ (W : World), W.heap[g]? = some (.cells cur1.toArray 36 (0, 0)) → W.heap[vb]? = some (.cells new.toArray 36 (0, 0)) → ∀ ty dl dc, 1 ≤ dl → (Builtin.copy_ #[32, 32] ty #[.slice (some ⟨g, i * 2, none⟩) dl dc, .slice (some ⟨vb, 0, none⟩) 1 1]).run Try.prog W = .ok (goInt 1) (W.setRow g (cur1.take (i * 2) ++ new ++ cur1.drop (i * 2 + new.length)).toArray) := fun W hW hWv ty dl dc hm => by
    have hmin : Nat.min 1 dl = 1 := by simp only [Nat.min_def]; split <;> omega
    have h := run_copy_rowk (P := Try.prog) W 32 32 ty 36 2 g (i * 2) dl dc ⟨vb, 0, none⟩ 1 1 cur1.toArray 36 new Try.underlying32 size36 hW (by rw [hmin, hnl]) (fun j v hj => by
      rw [Addr.add_lit, Nat.zero_add]
      simp [World.cell?, hWv, hj]) (by rw [hnl]; simp [hl1]; omega) h1
    rw [hmin] at h
    exact h
  have W1g : (w.drew.setRow g cur1.toArray).heap[g]? = some (.cells cur1.toArray 36 (0, 0)) := setRow_heap w.drew g cur _ 36 _ hg
  have W1v : (w.drew.setRow g cur1.toArray).heap[vb]? = some (.cells new.toArray 36 (0, 0)) := by
    rw [setRow_other w.drew g vb _ hne]; exact hv
  have hfin := owns_set (w := w.drew.setRow g cur1.toArray) (base := base) (e := 36) (k := 2) (n' := n + 1) (c := c) (new := (cur1.take (i * 2) ++ new ++ cur1.drop (i * 2 + new.length)).toArray) (xs := xs.take (i * 2) ++ new ++ xs.drop (i * 2)) W1g hb hnc hcm (by rw [List.size_toArray, hl2]; simpa using hcs) (by simp only [List.length_append, List.length_take, List.length_drop, hxl, hnl]; omega) (by rw [show (n + 1) * 2 = n * 2 + 2 by omega]; simpa using ht2)
  have hkp : Kp (fun k => some g = some k) w ((w.drew.setRow g cur1.toArray).setRow g (cur1.take (i * 2) ++ new ++ cur1.drop (i * 2 + new.length)).toArray) := (Kp.trans (Kp.of_below (drew_below w)) (kp_setRow _)).trans (kp_setRow _)
  obtain ⟨c2, hc2⟩ : ∃ c2, c2 = (cur1.take (i * 2) ++ new ++ cur1.drop (i * 2 + new.length)).toArray := ⟨_, rfl⟩
  obtain ⟨c1, hc1'⟩ : ∃ c1, c1 = cur1.toArray := ⟨_, rfl⟩
  rw [← hc1'] at hcp1 hcp2 W1g W1v hfin hkp
  rw [← hc2] at hcp2 hfin hkp
  obtain ⟨ys, hys⟩ : ∃ ys, ys = xs.take (i * 2) ++ new ++ xs.drop (i * 2) := ⟨_, rfl⟩
  rw [← hys] at hfin ⊢
  replace hg := hid hg
  replace hv := hid hv
  replace hxl := hid hxl
  replace ht := hid ht
  replace hcs := hid hcs
  replace hnl := hid hnl
  replace W1g := hid W1g
  replace W1v := hid W1v
  replace hfin := hid hfin
  replace hkp := hid hkp
  replace hcp1 := hid hcp1
  replace hcp2 := hid hcp2
  clear hcur1 hl1 hl2 ht2 hc2 hc1' hys
  go_enter Try.func45, Try.ntmps45
  go_wp2_with (simp only [hov])
  have hq1 := hcp1.out 3 (n - i) (c - (i + 1)) (n + 1 - i) (c - i) (by simp only [Nat.min_def]; split <;> omega)
  go_region
  have hq2 := hcp2.out _ W1g.out W1v.out 3 (n + 1 - i) (c - i) (by omega)
  go_wp2
  go_ret
  exact ⟨_, rfl, hfin.out, hkp.out, fun g' h => .inl h⟩

set_option maxRecDepth 100000 in
set_option maxHeartbeats 4000000 in
theorem insert_k_grow (g n c i vb : Nat) (cur : Array Value) (xs new : List Value) (w : World) (base : Nat) (hn : n ≤ 16) (hi : i < n) (hnc : n ≤ c) (hroom : c < n + 1) (hbase : base ≤ w.heap.size) (hg : w.heap[g]? = some (.cells cur 36 (0, 0))) (hxl : xs.length = n * 2) (ht : cur.toList.take (n * 2) = xs)
    (hv : w.heap[vb]? = some (.cells new.toArray 36 (0, 0))) (hnl : new.length = 2) (h1 : ∀ u ∈ new, u.oneCell' = true) (h1x : ∀ u ∈ xs, u.oneCell' = true) :
    Calls Try.prog 45 #[.slice (some ⟨g, 0, none⟩) n c, .int .i64 i, .slice (some ⟨vb, 0, none⟩) 1 1] w (InsPost 36 2 base (.slice (some ⟨g, 0, none⟩) n c) n (xs.take (i * 2) ++ new ++ xs.drop (i * 2)) w) := by
  obtain ⟨i0, hi0, hz0, hzs, hzb⟩ := info_parts info36z
  have hz2 : ¬ ((i : Int) = (n : Int)) := by omega
  have hz3 : (c : Int) < (n : Int) + 1 := by omega
  have hw1 : IntKind.i64.wrap ((i : Int) + 1) = (i : Int) + 1 := by rw [IntKind.wrap_i64]; omega
  have hb1 : (0 : Int) ≤ (i : Int) + 1 := by omega
  have hin : i ≤ n := by omega
  have htn : ((i : Int) + 1).toNat = i + 1 := by omega
  have hb3 : (i : Int) ≤ (n : Int) + 1 := by omega
  have hci : ¬ (c = i) := by omega
  have hgw : g < w.heap.size := (Array.getElem?_eq_some_iff.1 hg).1
  have hvw : vb < w.heap.size := (Array.getElem?_eq_some_iff.1 hv).1
  have hcell : ∀ j v, xs[j]? = some v → w.cell? ⟨g, j, none⟩ = some v := fun j v hj => by
    rw [← ht, List.getElem?_take] at hj
    split at hj
    · simp [World.cell?, hg]; simpa using hj
    · cases hj
  have hold : (Builtin.firstCells i0.size i (.slice (some ⟨g, 0, none⟩) i c)).run Try.prog w.drew = .ok (xs.take (i * 2)).toArray w.drew := by
    rw [hzs]
    exact run_firstCells_some w.drew 2 i ⟨g, 0, none⟩ i c (xs.take (i * 2)) (by rw [List.length_take, hxl]; omega) (fun j v hj => by
      rw [Addr.add_lit, Nat.zero_add]
      rw [List.getElem?_take] at hj
      split at hj
      · exact hcell j v hj
      · cases hj)
  have hkk : (n : Int) + 1 - (i : Int) = ((n + 1 - i : Nat) : Int) := by omega
  have hik : i + (n + 1 - i) = n + 1 := by omega
  have hrz := Lib.run_append_grow_zeros (P := Try.prog) w 32 3 32 36 i0 _ .i64 .i64 Try.underlying32 Try.underlying3 hi0 hz0 (some ⟨g, 0, none⟩) i c (xs.take (i * 2)) hold (n + 1 - i) (by omega) (by omega) (by omega) (by omega) (by rw [hzb]; omega) (by rw [hzb, hik]; exact growslice_fits hroom (by omega))
  rw [hik, ← hkk] at hrz
  have hGn : n + 1 ≤ grownCap w (n + 1) c 36 := grownCap_ge w _ _ _
  have hGm : grownCap w (n + 1) c 36 ≤ maxLen := grownCap_le_maxLen w (n + 1) c 36 (by unfold maxLen; omega)
  generalize grownCap w (n + 1) c 36 = G at hrz hGn hGm
  obtain ⟨R, hR⟩ : ∃ R : List Value, R = ((xs.take (i * 2)).toArray ++ Builtin.zeroCells (Value.cells (.agg #[.int .i64 0, .slice none 0 0])) (n + 1 - i) ++ Builtin.zeroCells (Value.cells (.agg #[.int .i64 0, .slice none 0 0])) (G - (n + 1))).toList := ⟨_, rfl⟩
  have hR' : (xs.take (i * 2)).toArray ++ Builtin.zeroCells (Value.cells (.agg #[.int .i64 0, .slice none 0 0])) (n + 1 - i) ++ Builtin.zeroCells (Value.cells (.agg #[.int .i64 0, .slice none 0 0])) (G - (n + 1)) = R.toArray := by rw [hR]
  rw [hR'] at hrz
  have hRl : R.length = G * 2 := by
    rw [hR]
    have hz1 : (Value.cells (.agg #[.int .i64 0, .slice none 0 0])).size = 2 := rfl
    simp only [Array.toList_append, List.length_append, Array.length_toList, size_zeroCells, hz1, List.length_take, hxl]
    omega
  have hRt : R.take (i * 2) = xs.take (i * 2) := by
    rw [hR]
    simp only [Array.toList_append, List.append_assoc]
    have e : i * 2 = (xs.take (i * 2)).length := by rw [List.length_take, hxl]; omega
    rw [List.take_append_of_le_length (by omega), List.take_of_length_le (by omega)]
  obtain ⟨R1, hR1, hl1, hl2, ht2⟩ := ins_two R xs new (i * 2) (n * 2) 2 hxl hRt hnl (by omega) (by rw [hRl]; omega)
  obtain ⟨W1, hW1⟩ : ∃ W1, W1 = w.drew.alloc (.cells R.toArray 36) := ⟨_, rfl⟩
  rw [← hW1] at hrz
  have hW1g : W1.heap[w.heap.size]? = some (.cells R.toArray 36 (0, 0)) := by rw [hW1]; exact heap_alloc_new w.drew _
  have hB1 : Below w.heap.size w W1 := by rw [hW1]; exact (Below.refl _ w).drew.alloc (Nat.le_refl _) _
  have hW1v : W1.heap[vb]? = some (.cells new.toArray 36 (0, 0)) := by rw [hB1.block vb hvw]; exact hv
  have hq1 : (Builtin.copy_ #[32, 32] 3 #[.slice (some ⟨w.heap.size, i * 2, none⟩) (n + 1 - i) (G - i), .slice (some ⟨vb, 0, none⟩) 1 1]).run Try.prog W1 = .ok (goInt 1) (W1.setRow w.heap.size R1.toArray) := by
    have hmin : Nat.min 1 (n + 1 - i) = 1 := by simp only [Nat.min_def]; split <;> omega
    have h := run_copy_rowk (P := Try.prog) W1 32 32 3 36 2 w.heap.size (i * 2) (n + 1 - i) (G - i) ⟨vb, 0, none⟩ 1 1 R.toArray 36 new Try.underlying32 size36 hW1g (by rw [hmin, hnl]) (fun j v hj => by
      rw [Addr.add_lit, Nat.zero_add]
      simp [World.cell?, hW1v, hj]) (by rw [hnl]; simp [hRl]; omega) h1
    rw [hmin] at h
    rw [h, hR1]
    rfl
  obtain ⟨W2, hW2⟩ : ∃ W2, W2 = W1.setRow w.heap.size R1.toArray := ⟨_, rfl⟩
  rw [← hW2] at hq1
  have hW2g : W2.heap[w.heap.size]? = some (.cells R1.toArray 36 (0, 0)) := by rw [hW2]; exact setRow_heap W1 w.heap.size _ _ 36 _ hW1g
  have hB2 : Below w.heap.size w W2 := by rw [hW2]; exact below_setRow hB1 (Nat.le_refl _) _
  have hq2 : (Builtin.copy_ #[32, 32] 3 #[.slice (some ⟨w.heap.size, (i + 1) * 2, none⟩) (n - i) (G - (i + 1)), .slice (some ⟨g, i * 2, none⟩) (n - i) (c - i)]).run Try.prog W2.drew = .ok (goInt ((n - i : Nat) : Int)) (W2.drew.setRow w.heap.size (R1.take (i * 2 + 2) ++ xs.drop (i * 2) ++ R1.drop (i * 2 + 2 + (xs.drop (i * 2)).length)).toArray) := by
    have hmin : Nat.min (n - i) (n - i) = n - i := Nat.min_self _
    have h := run_copy_rowk (P := Try.prog) W2.drew 32 32 3 36 2 w.heap.size ((i + 1) * 2) (n - i) (G - (i + 1)) ⟨g, i * 2, none⟩ (n - i) (c - i) R1.toArray 36 (xs.drop (i * 2)) Try.underlying32 size36 hW2g (by rw [hmin, List.length_drop, hxl, Nat.sub_mul]) (fun j v hj => by
      rw [Addr.add_lit]
      rw [List.getElem?_drop] at hj
      show W2.cell? _ = _
      rw [hB2.cell (p := ⟨g, i * 2 + j, none⟩) hgw]
      exact hcell _ v hj) (by rw [List.length_drop, hxl]; simp [hl1, hRl]; omega) (fun v hv => h1x v (List.mem_of_mem_drop hv))
    rw [hmin] at h
    rw [h]
    simp only [Nat.add_mul, Nat.one_mul]
  obtain ⟨R2, hR2⟩ : ∃ R2, R2 = (R1.take (i * 2 + 2) ++ xs.drop (i * 2) ++ R1.drop (i * 2 + 2 + (xs.drop (i * 2)).length)).toArray := ⟨_, rfl⟩
  have hfin := owns_set (w := W2.drew) (base := base) (e := 36) (k := 2) (n' := n + 1) (c := G) (new := (R1.take (i * 2 + 2) ++ xs.drop (i * 2) ++ R1.drop (i * 2 + 2 + (xs.drop (i * 2)).length)).toArray) (xs := xs.take (i * 2) ++ new ++ xs.drop (i * 2)) hW2g hbase hGn hGm (by rw [List.size_toArray, hl2, hRl]) (by simp only [List.length_append, List.length_take, List.length_drop, hxl, hnl]; omega) (by rw [show (n + 1) * 2 = n * 2 + 2 by omega]; simpa using ht2)
  rw [← hR2] at hq2 hfin
  have hkp : Below w.heap.size w (W2.drew.setRow w.heap.size R2) := below_setRow hB2.drew (Nat.le_refl _) _
  obtain ⟨ys, hys⟩ : ∃ ys, ys = xs.take (i * 2) ++ new ++ xs.drop (i * 2) := ⟨_, rfl⟩
  rw [← hys] at hfin ⊢
  have hGi : ¬ (G = i) := by omega
  have hGi1 : ¬ (G = i + 1) := by omega
  have hG63 : G ≤ 9223372036854775807 := by unfold maxLen at hGm; omega
  replace hfin := hid hfin
  replace hkp := hid hkp
  clear hv hg hxl ht hnl hcell hold hkk hik hR hR' hRl hRt hR1 hl1 hl2 ht2 hW1 hW1g hB1 hW1v hW2 hW2g hB2 hR2 hys hi0 hz0 hzs hzb h1 h1x hbase hGm
  go_enter Try.func45, Try.ntmps45
  replace hrz := hid hrz
  go_wp2_with (at_builtin; refine Hid.out ?_)
  refine hid ?_
  refine Lib.wpList_append_run _ rfl (.tmp 34) (.tmp 39) 32 3 rfl _ _ rfl rfl _ _ hrz.out ?_
  go_wp2
  go_region
  go_wp2
  go_ret
  refine ⟨_, rfl, hfin.out, Kp.of_below hkp.out, fun g' h => .inr ?_⟩
  exact Nat.le_of_eq (Option.some.inj h)

theorem insert_k (a : Option Addr) (n c i vb : Nat) (xs new : List Value) (w : World) (base : Nat) (hn : n ≤ 16) (hi : i ≤ n) (hown : w.ownsRow base 36 2 (.slice a n c) n xs) (hbase : base ≤ w.heap.size)
    (hv : w.heap[vb]? = some (.cells new.toArray 36 (0, 0))) (hnl : new.length = 2) (hne : (Value.slice a n c).ownBlock ≠ some vb) (h1 : ∀ u ∈ new, u.oneCell' = true) (h1x : ∀ u ∈ xs, u.oneCell' = true) :
    Calls Try.prog 45 #[.slice a n c, .int .i64 i, .slice (some ⟨vb, 0, none⟩) 1 1] w (InsPost 36 2 base (.slice a n c) n (xs.take (i * 2) ++ new ++ xs.drop (i * 2)) w) := by
  have hxl := hown.1
  rcases Nat.lt_or_ge i n with h | h
  · rcases hown.2 with ⟨hh, h0⟩ | ⟨g, cap, cur, hh, hb, hg, hc, hcm, hs, ht⟩
    · omega
    · simp only [Value.slice.injEq] at hh
      obtain ⟨rfl, _, rfl⟩ := hh
      rcases Nat.lt_or_ge c (n + 1) with hr | hr
      · exact insert_k_grow g n c i vb cur xs new w base hn h hc hr hbase hg hxl ht hv hnl h1 h1x
      · exact insert_k_room g n c i vb cur xs new w base hn h hr hcm hb hs hg hxl ht hv hnl (fun e => hne (by rw [e]; rfl)) h1 h1x
  · obtain rfl : i = n := by omega
    have := insert_k_end a i c vb xs new w base hn hown hbase hv hnl h1
    rwa [List.take_of_length_le (by omega), List.drop_eq_nil_of_le (by omega), List.append_nil]

end Go.Proofs.Ythjggjjocfbjcaa
