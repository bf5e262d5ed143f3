/- SessionOnce: what is on its way, in memory. -/
import Derived.Test.YthjggjjocfbjcaaOnceM
namespace Go.Proofs.Ythjggjjocfbjcaa
open Go.RowKit

/-- Three numbers: a packet. -/
abbrev P3 := Int × Int × Int
def c3 (x : P3) : List Value := [.int .i64 x.1, .int .i64 x.2.1, .int .i64 x.2.2]

theorem c3_len (X : List P3) : (X.flatMap c3).length = X.length * 3 := by
  induction X with
  | nil => rfl
  | cons q r ih => simp [c3, ih]; omega

theorem c3_one (X : List P3) : ∀ u ∈ X.flatMap c3, u.oneCell' = true := by
  intro u hu
  obtain ⟨x, _, h⟩ := List.mem_flatMap.1 hu
  simp only [c3, List.mem_cons, List.not_mem_nil, or_false] at h
  rcases h with rfl | rfl | rfl <;> rfl

theorem c3_get : ∀ (Q : List P3) (i r : Nat) (hi : i < Q.length) (_ : r < 3), (Q.flatMap c3)[i * 3 + r]? = (c3 Q[i])[r]?
  | [], i, r, hi, _ => by simp at hi
  | q :: t, 0, r, hi, hr => by
    simp only [List.flatMap_cons, Nat.zero_mul, Nat.zero_add, List.getElem_cons_zero]
    rw [List.getElem?_append_left (by simp [c3]; omega)]
  | q :: t, i + 1, r, hi, hr => by
    simp only [List.flatMap_cons, List.getElem_cons_succ]
    rw [List.getElem?_append_right (by simp [c3]; omega)]
    have := c3_get t i r (by simpa using hi) hr
    rw [← this]
    congr 1
    simp [c3]; omega

theorem c3_take (X : List P3) (j : Nat) : (X.flatMap c3).take (j * 3) = (X.take j).flatMap c3 := by
  induction X generalizing j with
  | nil => simp
  | cons q r ih =>
    cases j with
    | zero => simp
    | succ j =>
      simp only [List.take_succ_cons, List.flatMap_cons, ← ih]
      rw [show (j + 1) * 3 = (c3 q).length + j * 3 by simp [c3]; omega, List.take_length_add_append]

/-- A row of packets of the call's own: it may stop ahead of its block's end. -/
def QR (w : World) (base e : Nat) (v : Value) (X : List P3) : Prop :=
  (v = .slice none 0 0 ∧ X = []) ∨ ∃ b cap cur, v = .slice (some ⟨b, 0, none⟩) X.length cap ∧ base ≤ b ∧ w.heap[b]? = some (.cells cur e (0, 0)) ∧ X.length ≤ cap ∧ cap * 3 ≤ cur.size ∧ cur.toList.take (X.length * 3) = X.flatMap c3

theorem QR.nil (w : World) (base e : Nat) : QR w base e (.slice none 0 0) [] := .inl ⟨rfl, rfl⟩

theorem QR.lt {w : World} {base e : Nat} {v : Value} {X : List P3} (h : QR w base e v X) : ∀ k, v.ownBlock = some k → base ≤ k ∧ k < w.heap.size ∧ ∃ cur, w.heap[k]? = some (.cells cur e (0, 0)) := by
  intro k hk
  rcases h with ⟨rfl, _⟩ | ⟨b, cap, cur, rfl, hb, hg, _⟩
  · cases hk
  · cases hk
    exact ⟨hb, (Array.getElem?_eq_some_iff.1 hg).1, cur, hg⟩

theorem QR.kp {S : Nat → Prop} {w w' : World} {base e : Nat} {v : Value} {X : List P3} (h : QR w base e v X) (hk : Kp S w w') (hn : ∀ k, v.ownBlock = some k → ¬ S k) : QR w' base e v X := by
  rcases h with h | ⟨b, cap, cur, rfl, hb, hg, hr⟩
  · exact .inl h
  · refine .inr ⟨b, cap, cur, rfl, hb, ?_, hr⟩
    rw [hk.block b (Array.getElem?_eq_some_iff.1 hg).1 (hn b rfl)]
    exact hg

theorem QR.form {w : World} {base e : Nat} {v : Value} {X : List P3} (h : QR w base e v X) : ∃ a c, v = .slice a X.length c ∧ X.length ≤ c := by
  rcases h with ⟨rfl, rfl⟩ | ⟨b, cap, cur, rfl, _, _, hc, _⟩
  · exact ⟨none, 0, rfl, by simp⟩
  · exact ⟨_, cap, rfl, hc⟩

theorem QR.place {w : World} {base e : Nat} {v : Value} {X : List P3} (h : QR w base e v X) (hne : X ≠ []) : ∃ b cap, v = .slice (some ⟨b, 0, none⟩) X.length cap ∧ X.length ≤ cap := by
  rcases h with ⟨_, e⟩ | ⟨b, cap, cur, rfl, _, _, hc, _⟩
  · exact absurd e hne
  · exact ⟨b, cap, rfl, hc⟩

theorem QR.cell {w : World} {base e b n cap : Nat} {X : List P3} (h : QR w base e (.slice (some ⟨b, 0, none⟩) n cap) X) (i : Nat) (hi : i < X.length) (r : Nat) (hr : r < 3) : w.cell? ⟨b, i * 3 + r, none⟩ = (c3 X[i])[r]? := by
  rcases h with ⟨e, _⟩ | ⟨b, cap, cur, e, _, hg, hc, hs, ht⟩
  · cases e
  · cases e
    rw [cell_of_row _ _ _ _ _ _ hg, ← c3_get X i r hi hr, ← ht, List.getElem?_take, if_pos (by omega)]
    simp

theorem QR.cat {w : World} {base e b n cap : Nat} {X : List P3} (h : QR w base e (.slice (some ⟨b, 0, none⟩) n cap) X) (j : Nat) : CAt w (some ⟨b, j * 3, none⟩) ((X.drop j).flatMap c3) := by
  intro _
  refine ⟨b, j * 3, rfl, fun i hi => ?_⟩
  rw [c3_len] at hi
  simp only [List.length_drop] at hi
  rcases h with ⟨e, _⟩ | ⟨b, cap, cur, e, _, hg, hc, hs, ht⟩
  · cases e
  · cases e
    rw [cell_of_row _ _ _ _ _ _ hg]
    have h1 : (cur.toList.take (X.length * 3))[j * 3 + i]? = (X.flatMap c3)[j * 3 + i]? := by rw [ht]
    rw [List.getElem?_take, if_pos (by omega)] at h1
    rw [← Array.getElem?_toList, h1]
    have h2 : X.flatMap c3 = (X.take j).flatMap c3 ++ (X.drop j).flatMap c3 := by rw [← List.flatMap_append, List.take_append_drop]
    have h3 : ((X.take j).flatMap c3).length = j * 3 := by rw [c3_len]; simp; omega
    rw [h2, List.getElem?_append_right (by omega), h3, show j * 3 + i - j * 3 = i by omega]
    exact List.getElem?_eq_getElem _

theorem qr_new {w : World} {base e : Nat} (z : Value) (X : List P3) (N : Nat) (hbase : base ≤ w.heap.size) (hzs : z.cells.size = 3) (hN : X.length ≤ N) :
    QR (w.drew.alloc (.cells ((X.flatMap c3).toArray ++ Builtin.zeroCells z.cells (N - X.length)) e)) base e (.slice (some ⟨w.heap.size, 0, none⟩) X.length N) X := by
  refine .inr ⟨w.heap.size, N, _, rfl, hbase, heap_alloc_new w.drew _, hN, ?_, ?_⟩
  · simp only [Array.size_append, List.size_toArray, size_zeroCells, hzs, c3_len]
    omega
  · simp only [Array.toList_append]
    rw [← c3_len]
    exact List.take_left

/-- append of one packet. -/
theorem QR.app {w : World} {base t ty e : Nat} {i : TypeInfo} {z : Value} (ht : Try.prog.underlying t = some (.slice e)) (hi : Try.prog.info? e = some i) (hz : i.zero = some z) (hs : i.size = 3) (hb : i.bytes = 24) (hzs : z.cells.size = 3)
    {v : Value} {X : List P3} (h : QR w base e v X) (x : P3) (la : Addr) (lc : Nat) (hat : CAt w (some la) (c3 x)) (hl : X.length ≤ 100000) (hbase : base ≤ w.heap.size) :
    ∃ v' w', (Builtin.append_ #[t, t] ty #[v, .slice (some la) 1 lc]).run Try.prog w = .ok v' w' ∧ QR w' base e v' (X ++ [x]) ∧ w.grownBy w' v.ownBlock ∧ (v'.ownBlock = v.ownBlock ∨ v'.ownBlock = some w.heap.size) := by
  have hn1 : (c3 x).length = 1 * i.size := by rw [hs]; rfl
  have ho : ∀ u ∈ c3 x, u.oneCell' = true := by have := c3_one [x]; simpa using this
  rcases h with ⟨rfl, rfl⟩ | ⟨g, cap, cur, rfl, hbg, hg, hnc, hcs, htake⟩
  · have hr := run_append_nil (P := Try.prog) w t ty e i z ht hi hz la 1 lc (c3 x) hn1 hat.src (by omega) (by omega) (by rw [hb]; omega)
    refine ⟨_, _, hr, ?_, ⟨rfl, rfl, rfl, by simp, fun k hk _ => heap_alloc_old w.drew _ hk⟩, .inr rfl⟩
    have := qr_new (w := w) (e := e) z [x] (grownCap w 1 0 e) hbase hzs (by simpa using grownCap_ge w 1 0 e)
    simpa using this
  · by_cases hroom : X.length + 1 ≤ cap
    · have hfit : X.length * i.size + (c3 x).length ≤ cur.size := by rw [hs]; simp [c3]; omega
      have hr := run_append_room (P := Try.prog) w t ty e i ht hi g X.length cap cur hg la 1 lc (c3 x) hn1 hat.src ho hroom hfit
      refine ⟨_, _, hr, .inr ⟨g, cap, _, by simp, hbg, setRow_heap w g cur _ e _ hg, by simpa using hroom, ?_, ?_⟩, ⟨rfl, rfl, rfl, by simp, fun k _ hk => setRow_other w g k _ (fun e => hk (by simp [Value.ownBlock, e]))⟩, .inl rfl⟩
      · simp only [List.size_toArray, List.length_append, List.length_take, List.length_drop, Array.length_toList]
        omega
      · rw [hs]
        simp only [htake, List.flatMap_append, List.flatMap_cons, List.flatMap_nil, List.append_nil]
        rw [show (X ++ [x]).length * 3 = (X.flatMap c3 ++ c3 x).length by rw [List.length_append, List.length_append, c3_len]; simp only [c3, List.length_cons, List.length_nil]; omega]
        exact List.take_left
    · have h0 : QR w base e (.slice (some ⟨g, 0, none⟩) X.length cap) X := .inr ⟨g, cap, cur, rfl, hbg, hg, hnc, hcs, htake⟩
      have hold : CAt w (some ⟨g, 0, none⟩) (X.flatMap c3) := by have := h0.cat 0; simpa using this
      have hr := run_append_grow (P := Try.prog) w t ty e i z ht hi hz ⟨g, 0, none⟩ X.length cap (X.flatMap c3) (by rw [hs, c3_len]) hold.src la 1 lc (c3 x) hn1 hat.src (by omega) (by omega) (growslice_fits (by omega) (by rw [hb]; omega))
      refine ⟨_, _, hr, ?_, ⟨rfl, rfl, rfl, by simp, fun k hk _ => heap_alloc_old w.drew _ hk⟩, .inr rfl⟩
      have := qr_new (w := w) (e := e) z (X ++ [x]) (grownCap w (X.length + 1) cap e) hbase hzs (by simpa using grownCap_ge w (X.length + 1) cap e)
      simpa using this

/-- One packet out: 'append(s[:j:j], s[j+1:]...)'. -/
theorem QR.cut {w : World} {base t ty e : Nat} {i : TypeInfo} {z : Value} (ht : Try.prog.underlying t = some (.slice e)) (hi : Try.prog.info? e = some i) (hz : i.zero = some z) (hs : i.size = 3) (hb : i.bytes = 24) (hzs : z.cells.size = 3)
    {b n cap : Nat} {X : List P3} (h : QR w base e (.slice (some ⟨b, 0, none⟩) n cap) X) (j : Nat) (hj : j < X.length) (y : Option Addr) (m yc : Nat) (hm : m = X.length - (j + 1)) (hy : y = if cap = j + 1 then some ⟨b, 0, none⟩ else some ⟨b, (j + 1) * 3, none⟩) (hl : X.length ≤ 100000) (hbase : base ≤ w.heap.size) :
    ∃ v' w', (Builtin.append_ #[t, t] ty #[.slice (some ⟨b, 0, none⟩) j j, .slice y m yc]).run Try.prog w = .ok v' w' ∧ QR w' base e v' (X.take j ++ X.drop (j + 1)) ∧ Below w.heap.size w w' ∧ (v'.ownBlock = some b ∨ v'.ownBlock = some w.heap.size) := by
  have hc := h
  rcases h with ⟨q, _⟩ | ⟨b, cap, cur, q, hbg, hg, hnc, hcs, htake⟩
  · cases q
  cases q
  by_cases hlast : j + 1 = X.length
  · have hm0 : m = 0 := by omega
    subst hm0
    have hX : X.take j ++ X.drop (j + 1) = X.take j := by rw [List.drop_eq_nil_of_le (by omega)]; simp
    refine ⟨.slice (some ⟨b, 0, none⟩) j j, w, ?_, ?_, Below.refl _ _, .inl rfl⟩
    · subst hy
      split <;> simp [Builtin.append_, run_underlying ht, sizeOf, typeInfo, hi, Builtin.lenOf, Builtin.firstCells, loadCells, loadCellsFrom, storeCells]
    · rw [hX]
      have hlen : (X.take j).length = j := by simp; omega
      refine .inr ⟨b, j, cur, by rw [hlen], hbg, hg, by omega, by omega, ?_⟩
      rw [hlen, ← c3_take, ← htake, List.take_take, Nat.min_eq_left (by omega)]
  · have hcap : ¬ cap = j + 1 := by omega
    rw [if_neg hcap] at hy
    subst hy
    have hold : CAt w (some ⟨b, 0, none⟩) ((X.take j).flatMap c3) := by
      intro _
      refine ⟨b, 0, rfl, fun i hi => ?_⟩
      rw [c3_len] at hi
      simp only [List.length_take] at hi
      rw [Nat.zero_add, cell_of_row _ _ _ _ _ _ hg]
      have h1 : ((X.flatMap c3).take (j * 3))[i]? = cur.toList[i]? := by
        rw [← htake, List.take_take, List.getElem?_take, if_pos (by omega)]
      rw [← Array.getElem?_toList, ← h1, c3_take]
      exact List.getElem?_eq_getElem _
    have hlen : (X.take j).length = j := by simp; omega
    have hld : (X.drop (j + 1)).length = m := by simp; omega
    have hr := run_append_grow (P := Try.prog) w t ty e i z ht hi hz ⟨b, 0, none⟩ j j ((X.take j).flatMap c3) (by rw [hs, c3_len, hlen]) hold.src ⟨b, (j + 1) * 3, none⟩ m yc ((X.drop (j + 1)).flatMap c3) (by rw [hs, c3_len, hld]) (hc.cat (j + 1)).src (by omega) (by omega) (growslice_fits (by omega) (by rw [hb]; omega))
    refine ⟨_, _, hr, ?_, (Below.refl _ w).drew.alloc (Nat.le_refl _) _, .inr rfl⟩
    have := qr_new (w := w) (e := e) z (X.take j ++ X.drop (j + 1)) (grownCap w (j + m) j e) hbase hzs (by have := grownCap_ge w (j + m) j e; rw [List.length_append, hlen, hld]; exact this)
    rw [List.length_append, hlen, hld] at this
    simpa using this

end Go.Proofs.Ythjggjjocfbjcaa
