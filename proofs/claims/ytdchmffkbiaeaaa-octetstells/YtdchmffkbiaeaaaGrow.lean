/- append onto a slice of bytes that the call itself has made (or nil), of a slice of bytes or of a text: what it owns then; for up to 140737489000000 bytes together. -/
import Derived.Test.YtdchmffkbiaeaaaAwake
import Derived.Lib.AppendStr
namespace Go.Proofs.Ytdchmffkbiaeaaa
open Go.RowKit

/-- v is nil or a row of the call's own (block numbers from base on), and its elements are the bytes l. -/
def Own (w : World) (base : Nat) (v : Value) (l : List UInt8) : Prop := w.ownsRow base 5 1 v l.length (l.map B)

theorem Own.nil (w : World) (base : Nat) : Own w base (.slice none 0 0) [] := World.ownsRow_nil w base 5 1

/-- The value's shape. -/
theorem Own.form {w : World} {base : Nat} {v : Value} {l : List UInt8} (h : Own w base v l) : ∃ a cap, v = .slice a l.length cap ∧ l.length ≤ cap ∧ At w a l := by
  rcases h.2 with ⟨rfl, hn⟩ | ⟨g, cap, cur, rfl, _, hg, hnc, _, hcs, ht⟩
  · have : l = [] := List.eq_nil_of_length_eq_zero hn
    subst this
    exact ⟨none, 0, rfl, Nat.le_refl _, fun h => absurd rfl h⟩
  · refine ⟨_, cap, rfl, hnc, fun _ => ⟨g, 0, rfl, fun i hi => ?_⟩⟩
    have hc : cur.toList[i]? = some (B l[i]) := by
      have : (cur.toList.take (l.length * 1))[i]? = some (B l[i]) := by rw [ht]; simp [hi]
      rw [List.getElem?_take] at this
      simpa [hi] using this
    have hc' : cur[i]? = some (B l[i]) := by simpa using hc
    rw [Nat.zero_add]
    simp [World.cell?, hg, hc', B]

theorem Own.form_pos {w : World} {base : Nat} {v : Value} {l : List UInt8} (h : Own w base v l) (hne : l ≠ []) : ∃ g cap, v = .slice (some ⟨g, 0, none⟩) l.length cap ∧ l.length ≤ cap ∧ At w (some ⟨g, 0, none⟩) l := by
  obtain ⟨a, cap, hv, hc, hat⟩ := h.form
  rcases h.2 with ⟨rfl, hn⟩ | ⟨g, cap', cur, hv', _, _, _, _, _, _⟩
  · exact absurd (List.eq_nil_of_length_eq_zero hn) hne
  · rw [hv] at hv'
    simp at hv'
    obtain ⟨rfl, rfl⟩ := hv'
    exact ⟨g, cap, hv, hc, hat⟩

theorem Own.le {w : World} {base base' : Nat} {v : Value} {l : List UInt8} (h : Own w base v l) (hb : base' ≤ base) : Own w base' v l := by
  refine ⟨h.1, ?_⟩
  rcases h.2 with h1 | ⟨g, cap, cur, h1, h2, h3⟩
  · exact .inl h1
  · exact .inr ⟨g, cap, cur, h1, by omega, h3⟩

theorem fits (need old : Nat) (h : old < need) (hb : need ≤ 140737489000000) : Builtin.nextslicecap need old ≤ 281474976710656 := by
  unfold Builtin.nextslicecap
  split
  · omega
  · split
    · omega
    · rw [growBy_four]
      repeat' split
      all_goals omega

theorem own_grown (w : World) (base : Nat) (l m : List UInt8) (old : Nat) (hb : l.length + m.length ≤ 140737489000000) (hbase : base ≤ w.heap.size) :
    Own (w.drew.alloc (.cells ((l.map B).toArray ++ (m.map B).toArray ++ Builtin.zeroCells (Value.cells (.int .u8 0)) (grownCap w (l.length + m.length) old 5 - (l.length + m.length))) 5)) base
      (.slice (some ⟨w.heap.size, 0, none⟩) (l.length + m.length) (grownCap w (l.length + m.length) old 5)) (l ++ m) ∧
    Below base w (w.drew.alloc (.cells ((l.map B).toArray ++ (m.map B).toArray ++ Builtin.zeroCells (Value.cells (.int .u8 0)) (grownCap w (l.length + m.length) old 5 - (l.length + m.length))) 5)) := by
  have hge := grownCap_ge w (l.length + m.length) old 5
  have hcm : grownCap w (l.length + m.length) old 5 ≤ maxLen := grownCap_le_maxLen w (l.length + m.length) old 5 (by unfold maxLen; omega)
  refine ⟨⟨by simp, .inr ⟨w.heap.size, grownCap w (l.length + m.length) old 5, _, by rw [List.length_append], hbase, heap_alloc_new w.drew _, by rw [List.length_append]; exact hge, hcm, ?_, ?_⟩⟩, (Below.refl _ _).drew.alloc hbase _⟩
  · have hz1 : (Value.int IntKind.u8 0).cells.size = 1 := rfl
    simp only [Array.size_append, List.size_toArray, size_zeroCells, hz1, List.length_map]
    omega
  · simp only [Array.toList_append, List.append_assoc]
    rw [← List.append_assoc, ← List.map_append]
    have e : (l ++ m).length * 1 = ((l ++ m).map B).length := by simp
    rw [e]
    exact List.take_left

theorem At.head {w : World} {a : Option Addr} {l z : List UInt8} (h : At w a (l ++ z)) : At w a l := by
  intro hl
  obtain ⟨b, o, rfl, hc⟩ := h (by simp [hl])
  refine ⟨b, o, rfl, fun i hi => ?_⟩
  rw [hc i (by simp; omega), List.getElem_append_left hi]

theorem B_one (l : List UInt8) : ∀ u ∈ l.map B, u.oneCell' = true := by
  intro v hv; simp at hv; obtain ⟨x, _, rfl⟩ := hv; rfl

theorem At.src {w : World} {x : Addr} {m : List UInt8} (h : At w (some x) m) : ∀ j v, (m.map B)[j]? = some v → w.cell? (x.add j) = some v := by
  intro j v hj
  have hjl : j < m.length := by
    rcases Nat.lt_or_ge j m.length with h | h
    · exact h
    · simp [List.getElem?_eq_none (show (m.map B).length ≤ j by simpa using h)] at hj
  obtain ⟨b, q, hx, hc⟩ := h (by intro e; subst e; simp at hjl)
  cases hx
  have hplain : (⟨b, q, none⟩ : Addr).add j = ⟨b, q + j, none⟩ := by unfold Addr.add; split <;> simp_all
  rw [hplain, hc j hjl]
  simp [List.getElem?_eq_getElem hjl] at hj
  subst hj
  rfl

theorem Own.setRow {w : World} {base g cap : Nat} {cur : Array Value} {l m : List UInt8} (hbg : base ≤ g) (hg : w.heap[g]? = some (.cells cur 5 (0, 0))) (hroom : l.length + m.length ≤ cap) (hcm : cap ≤ maxLen) (hcs : cur.size = cap) (ht : cur.toList.take l.length = l.map B) :
    Own (w.setRow g (cur.toList.take l.length ++ m.map B ++ cur.toList.drop (l.length + m.length)).toArray) base (.slice (some ⟨g, 0, none⟩) (l.length + m.length) cap) (l ++ m) ∧ Below base w (w.setRow g (cur.toList.take l.length ++ m.map B ++ cur.toList.drop (l.length + m.length)).toArray) := by
  refine ⟨⟨by simp, .inr ⟨g, cap, _, by rw [List.length_append], hbg, setRow_heap w g cur _ 5 _ hg, by rw [List.length_append]; exact hroom, hcm, ?_, ?_⟩⟩, below_setRow (Below.refl _ _) hbg _⟩
  · simp only [List.size_toArray, List.length_append, List.length_take, List.length_drop, Array.length_toList, List.length_map]
    omega
  · rw [ht, ← List.map_append]
    have e : (l ++ m).length * 1 = ((l ++ m).map B).length := by simp
    rw [e]
    exact List.take_left

/-- 'append(v, src...)', v the call's own. -/
theorem app_slice (w : World) (base : Nat) (v : Value) (l src : List UInt8) (hown : Own w base v l) (a : Option Addr) (m c : Nat) (hs : src.length = m) (hat : At w a src) (hb : l.length + m ≤ 140737489000000) (hbase : base ≤ w.heap.size) :
    ∃ v' w', (Builtin.append_ #[25, 25] 25 #[v, .slice a m c]).run Try.prog w = .ok v' w' ∧ Own w' base v' (l ++ src) ∧ Below base w w' := by
  subst hs
  obtain ⟨i0, hi, hz0, hz1, hz2⟩ := info_parts info5
  cases a with
  | none =>
    have he : src = [] := by
      rcases src with _ | ⟨x, r⟩
      · rfl
      · obtain ⟨b, o, h, _⟩ := hat (by simp); cases h
    subst he
    refine ⟨v, w, ?_, by simpa using hown, Below.refl _ _⟩
    rcases hown.2 with ⟨rfl, hn⟩ | ⟨g, cap, cur, rfl, hbg, hg, hnc, hcm, hcs, htake⟩
    · simp [Builtin.append_, run_underlying Try.underlying25, sizeOf, typeInfo, hi, Builtin.lenOf, Builtin.firstCells]
    · simp [Builtin.append_, run_underlying Try.underlying25, sizeOf, typeInfo, hi, Builtin.lenOf, Builtin.firstCells, hnc, storeCells]
  | some x =>
    have hsrc := hat.src
    rcases hown.2 with ⟨rfl, hn⟩ | ⟨g, cap, cur, rfl, hbg, hg, hnc, hcm, hcs, htake⟩
    · have hl0 : l = [] := List.eq_nil_of_length_eq_zero hn
      subst hl0
      by_cases hm : src = []
      · subst hm
        refine ⟨.slice none 0 0, w, ?_, Own.nil w base, Below.refl _ _⟩
        simp [Builtin.append_, run_underlying Try.underlying25, sizeOf, typeInfo, hi, Builtin.lenOf, Builtin.firstCells, loadCells, loadCellsFrom]
      · have hp : 0 < src.length := List.length_pos_iff.2 hm
        have hr := run_append_nil (P := Try.prog) w 25 25 5 i0 (.int .u8 0) Try.underlying25 hi hz0 x src.length c (src.map B) (by simp [hz1]) hsrc hp (by simp at hb; omega) (by rw [hz2]; simp at hb; omega)
        have hgr := own_grown w base [] src 0 (by simpa using hb) hbase
        simp only [List.length_nil, Nat.zero_add, List.nil_append, List.map_nil, Array.empty_append] at hgr ⊢
        exact ⟨_, _, hr, hgr.1, hgr.2⟩
    · by_cases hroom : l.length + src.length ≤ cap
      · have hr := run_append_room (P := Try.prog) w 25 25 5 i0 Try.underlying25 hi g l.length cap cur hg x src.length c (src.map B) (by simp [hz1]) hsrc (B_one src) hroom (by rw [hz1, List.length_map]; omega)
        rw [hz1, Nat.mul_one, List.length_map] at hr
        have hgr := Own.setRow hbg hg hroom hcm (by simpa using hcs) (by simpa using htake)
        exact ⟨_, _, hr, hgr.1, hgr.2⟩
      · have holds : ∀ j u, (l.map B)[j]? = some u → w.cell? ((⟨g, 0, none⟩ : Addr).add j) = some u := hown.cells (g := g) rfl
        have hr := run_append_grow (P := Try.prog) w 25 25 5 i0 (.int .u8 0) Try.underlying25 hi hz0 ⟨g, 0, none⟩ l.length cap (l.map B) (by simp [hz1]) holds x src.length c (src.map B) (by simp [hz1]) hsrc (by omega) (by omega) (by rw [hz2, Nat.mul_one]; exact fits _ _ (by omega) hb)
        have hgr := own_grown w base l src cap hb hbase
        exact ⟨_, _, hr, hgr.1, hgr.2⟩

/-- 'append(v, s...)', v the call's own, s a text. -/
theorem app_string (w : World) (base : Nat) (v : Value) (l : List UInt8) (s : ByteArray) (hown : Own w base v l) (hb : l.length + s.size ≤ 140737489000000) (hbase : base ≤ w.heap.size) :
    ∃ v' w', (Builtin.append_ #[25, 9] 25 #[v, .string s]).run Try.prog w = .ok v' w' ∧ Own w' base v' (l ++ s.data.toList) ∧ Below base w w' := by
  obtain ⟨i0, hi, hz0, hz1, hz2⟩ := info_parts info5
  have hsz : s.data.toList.length = s.size := by simp
  have hcells : Lib.strCells s = s.data.toList.map B := rfl
  rcases hown.2 with ⟨rfl, hn⟩ | ⟨g, cap, cur, rfl, hbg, hg, hnc, hcm, hcs, htake⟩
  · have hl0 : l = [] := List.eq_nil_of_length_eq_zero hn
    subst hl0
    by_cases hm : s.size = 0
    · obtain rfl : s = ByteArray.empty := ByteArray.ext (Array.eq_empty_of_size_eq_zero hm)
      refine ⟨.slice none 0 0, w, ?_, by simpa using Own.nil w base, Below.refl _ _⟩
      simp [Builtin.append_, run_underlying Try.underlying25, run_underlying Try.underlying9, sizeOf, typeInfo, hi, Builtin.lenOf, Builtin.firstCells]
    · have hr := run_append_nil_string (P := Try.prog) w 25 9 25 5 i0 (.int .u8 0) Try.underlying25 Try.underlying9 hi hz0 s (by omega) (by simp at hb; omega) (by rw [hz2]; simp at hb; omega)
      have hgr := own_grown w base [] s.data.toList 0 (by simpa using hb) hbase
      simp only [List.length_nil, Nat.zero_add, List.nil_append, List.map_nil, Array.empty_append, hsz] at hgr ⊢
      have e1 : (s.data.map fun b => Value.int .u8 b.toNat) = (s.data.toList.map B).toArray := by
        apply Array.ext'
        rw [Array.toList_map]
        rfl
      rw [e1] at hr
      exact ⟨_, _, hr, hgr.1, hgr.2⟩
  · by_cases hroom : l.length + s.size ≤ cap
    · have hr := Lib.run_append_room_string (P := Try.prog) w 25 9 25 5 i0 Try.underlying25 Try.underlying9 hi hz1 g l.length cap cur hg s hroom (by omega)
      rw [hcells] at hr
      have hgr := Own.setRow (l := l) (m := s.data.toList) hbg hg (by rw [hsz]; exact hroom) hcm (by simpa using hcs) (by simpa using htake)
      rw [hsz] at hgr
      exact ⟨_, _, hr, hgr.1, hgr.2⟩
    · have holds : ∀ j u, (l.map B)[j]? = some u → w.cell? ((⟨g, 0, none⟩ : Addr).add j) = some u := hown.cells (g := g) rfl
      have hr := Lib.run_append_grow_string (P := Try.prog) w 25 9 25 5 i0 (.int .u8 0) Try.underlying25 Try.underlying9 hi hz0 ⟨g, 0, none⟩ l.length cap (l.map B) (by simp [hz1]) holds s (by omega) (by omega) (by rw [hz2, Nat.mul_one]; exact fits _ _ (by omega) hb)
      have hgr := own_grown w base l s.data.toList cap (by rw [hsz]; exact hb) hbase
      rw [hsz] at hgr
      rw [hcells] at hr
      exact ⟨_, _, hr, hgr.1, hgr.2⟩

end Go.Proofs.Ytdchmffkbiaeaaa
