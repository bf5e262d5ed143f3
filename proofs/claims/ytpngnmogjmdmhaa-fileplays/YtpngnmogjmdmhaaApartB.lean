/- What ApartBytes does with slices that each have a block of their own: true, and it turns nothing but these blocks. -/
import Derived.Test.YtpngnmogjmdmhaaMade
import Derived.Test.YtpngnmogjmdmhaaVals2
import Derived.Test.YtpngnmogjmdmhaaDrawL
import Derived.Laws.OwnMore
namespace Go.Proofs.Ytpngnmogjmdmhaa
open Go.RowKit

theorem Own.set {w : World} {base g n cap : Nat} {l : List UInt8} (h : Own w base (.slice (some ⟨g, 0, none⟩) n cap) l) (hl : l.length = n) (i : Nat) (x : UInt8) :
    Own (w.setCell ⟨g, i, none⟩ (B x)) base (.slice (some ⟨g, 0, none⟩) n cap) (l.set i x) := by
  subst hl
  unfold Own at *
  have := (World.ownsRow.stored h i (B x)).1
  rw [List.length_set, List.map_set]
  exact this

theorem Own.free {w : World} {base g n cap : Nat} {l : List UInt8} (h : Own w base (.slice (some ⟨g, 0, none⟩) n cap) l) (hl : l.length = n) (i : Nat) : w.frozen? ⟨g, i, none⟩ = false := by
  subst hl; exact World.ownsRow.frozenAt h i

theorem Own.cellAt {w : World} {base g n cap : Nat} {l : List UInt8} (h : Own w base (.slice (some ⟨g, 0, none⟩) n cap) l) (hl : l.length = n) (i : Nat) (hi : i < n) : w.cell? ⟨g, i, none⟩ = some (.int .u8 ((l.getD i 0).toNat : Int)) := by
  subst hl
  have := World.ownsRow.cellAt h i (by omega)
  rw [this]
  simp [hi, B]

/-- The marks of one slice. -/
def mks (k n : Nat) : List UInt8 := (List.range n).map (mkB k)
theorem mks_len (k n : Nat) : (mks k n).length = n := by simp [mks]
theorem mks_snoc (k n : Nat) : mks k (n + 1) = mks k n ++ [mkB k n] := by simp [mks, List.range_succ]
theorem mks_take (k n t : Nat) : (mks k (n + t)).take n = mks k n := by
  induction t with
  | zero => rw [Nat.add_zero, List.take_of_length_le (by rw [mks_len]; exact Nat.le_refl _)]
  | succ t ih => rw [show n + (t + 1) = n + t + 1 by omega, mks_snoc, List.take_append_of_le_length (by rw [mks_len]; omega), ih]
theorem mks_get (k n i : Nat) (h : i < n) : (mks k n).getD i 0 = mkB k i := by
  unfold mks
  rw [List.getD_eq_getElem?_getD, List.getElem?_map, List.getElem?_range h]
  rfl

structure Marked (w W : World) (base m k : Nat) (S : Nat → Value) (n : Nat → Nat) (L : Nat → List UInt8) : Prop where
  own : ∀ j, j < m → Own W base (S j) (L j)
  len : ∀ j, j < m → (L j).length = n j
  done : ∀ j, j < k → L j = mks j (n j)
  kp : Kp (fun b => ∃ j, j < m ∧ (S j).ownBlock = some b) w W

def updL (L : Nat → List UInt8) (k : Nat) (l : List UInt8) : Nat → List UInt8 := fun j => if j = k then l else L j
theorem updL_same (L : Nat → List UInt8) (k : Nat) (l : List UInt8) : updL L k l k = l := by unfold updL; rw [if_pos rfl]
theorem updL_other (L : Nat → List UInt8) (k j : Nat) (l : List UInt8) (h : j ≠ k) : updL L k l j = L j := by unfold updL; rw [if_neg h]

theorem Marked.set {w W : World} {base m k : Nat} {S : Nat → Value} {n : Nat → Nat} {L : Nat → List UInt8} (h : Marked w W base m k S n L) (hk : k < m) (hd : ∀ i j, i < m → j < m → i ≠ j → ∀ b, (S i).ownBlock = some b → (S j).ownBlock ≠ some b)
    (g c : Nat) (hS : S k = .slice (some ⟨g, 0, none⟩) (n k) c) (i : Nat) (x : UInt8) : Marked w (W.setCell ⟨g, i, none⟩ (B x)) base m k S n (updL L k ((L k).set i x)) := by
  have hb : (S k).ownBlock = some g := by rw [hS]; rfl
  refine ⟨fun j hj => ?_, fun j hj => ?_, fun j hj => ?_, h.kp.setCell (p := ⟨g, i, none⟩) ⟨k, hk, hb⟩ _⟩
  · by_cases e : j = k
    · subst e
      rw [updL_same]
      have h1 := h.own j hj
      rw [hS] at h1 ⊢
      exact h1.set (h.len j hj) i x
    · rw [updL_other _ _ _ _ e]
      exact ownsRow_setCell_other (h.own j hj) (a := ⟨g, i, none⟩) (hd k j hk hj (fun e2 => e e2.symm) g hb) _
  · by_cases e : j = k
    · subst e; rw [updL_same, List.length_set]; exact h.len j hj
    · rw [updL_other _ _ _ _ e]; exact h.len j hj
  · rw [updL_other _ _ _ _ (by omega)]; exact h.done j hj

theorem Marked.next {w W : World} {base m k : Nat} {S : Nat → Value} {n : Nat → Nat} {L : Nat → List UInt8} (h : Marked w W base m k S n L) (hk : k < m) (ht : (L k).take (n k) = mks k (n k)) : Marked w W base m (k + 1) S n L := by
  refine ⟨h.own, h.len, fun j hj => ?_, h.kp⟩
  by_cases e : j = k
  · subst e
    rw [List.take_of_length_le (by rw [h.len j hk]; exact Nat.le_refl _)] at ht
    exact ht
  · exact h.done j (by omega)

theorem kp_cell {T : Nat → Prop} {w w' : World} {ad : Addr} {v : Value} (hk : Kp T w w') (h : w.cell? ad = some v) (hn : ¬ T ad.block) : w'.cell? ad = some v := by
  have hlt := World.block_lt_of_cell? w _ h
  have hb := hk.block ad.block hlt hn
  unfold World.cell? at h ⊢
  rw [hb]
  exact h

theorem Marked.drew {w W : World} {base m k : Nat} {S : Nat → Value} {n : Nat → Nat} {L : Nat → List UInt8} (h : Marked w W base m k S n L) : Marked w W.drew base m k S n L :=
  ⟨fun j hj => (h.own j hj).below (drew_below W), h.len, h.done, h.kp.trans (Kp.of_below (drew_below W))⟩

/-- append of one byte: in place, or what lay there stays. -/
theorem app1_run (w : World) (base ty : Nat) (v : Value) (l : List UInt8) (hown : Own w base v l) (x : Addr) (b : UInt8) (c : Nat) (hb : w.cell? (x.add 0) = some (B b)) (hl : l.length ≤ 10000000) (hbase : base ≤ w.heap.size) :
    ∃ v' w', (Builtin.append_ #[26, 26] ty #[v, .slice (some x) 1 c]).run Try.prog w = .ok v' w' ∧ Own w' base v' (l ++ [b]) ∧ w.grownBy w' v.ownBlock ∧ (v'.ownBlock = v.ownBlock ∨ (v'.ownBlock = some w.heap.size ∧ w.grownBy w' none)) := by
  obtain ⟨i0, hi, hz0, hz1, hz2⟩ := info_parts info5
  have hnews : ∀ j u, [B b][j]? = some u → w.cell? (x.add j) = some u := fun j u hu => by
    match j with
    | 0 => simp at hu; rw [← hu]; exact hb
    | j + 1 => simp at hu
  have h1 : ∀ u ∈ [B b], u.oneCell' = true := fun u hu => by rw [List.mem_singleton.1 hu]; rfl
  obtain ⟨v', w', hr, ho, hg, _, hbl⟩ := run_append_own_at (P := Try.prog) w base 26 ty 5 i0 _ 1 1 Try.underlying26 hi hz0 hz1 hz2 rfl (by omega) v l.length (l.map B) hown x 1 c [B b] rfl hnews h1 (by unfold maxLen; omega) (by omega) hbase
  refine ⟨v', w', hr, ?_, hg, ?_⟩
  · unfold Own
    rw [List.length_append, List.map_append]
    exact ho
  · rcases hown.2 with ⟨rfl, _⟩ | ⟨g, cap, cur, rfl, hbg, hgc, hnc, hcm, hcs, htake⟩
    · rcases hbl with h | h
      · exact .inl h
      · exact .inr ⟨h, hg⟩
    · by_cases hroom : l.length + 1 ≤ cap
      · have hr2 := run_append_room (P := Try.prog) w 26 ty 5 i0 Try.underlying26 hi g l.length cap cur hgc x 1 c [B b] (by rw [hz1]; rfl) hnews h1 hroom (by rw [hz1, hcs]; simp; omega)
        rw [hr] at hr2
        simp only [Result.ok.injEq] at hr2
        left
        rw [hr2.1]
        rfl
      · have hr2 := run_append_grow (P := Try.prog) w 26 ty 5 i0 _ Try.underlying26 hi hz0 ⟨g, 0, none⟩ l.length cap (l.map B) (by rw [hz1]; simp) (hown.cells (g := g) rfl) x 1 c [B b] (by rw [hz1]; rfl) hnews (by omega) (by omega) (growslice_fits (by omega) (by rw [hz2]; omega))
        rw [hr] at hr2
        simp only [Result.ok.injEq] at hr2
        right
        rw [hr2.1, hr2.2]
        exact ⟨rfl, ⟨rfl, rfl, rfl, by simp, fun k hk _ => heap_alloc_old w.drew _ hk⟩⟩

theorem wpList_app1 (w : World) {ops : Array Oper} {rest : List Oper} {o : Oper} {a : Act} {Q : Exit → Act → World → Prop} (hgd : o.guard = none) (s x : Operand)
    (ho : o.op = .call { callee := .builtin .append, args := #[s, x], argTypes := #[26, 26] })
    (base : Nat) (v : Value) (l : List UInt8) (hs : a.eval s = v) (hown : Own w base v l) (ad : Addr) (b : UInt8) (c : Nat) (hx : a.eval x = .slice (some ad) 1 c) (hb : w.cell? (ad.add 0) = some (B b)) (hl : l.length ≤ 10000000) (hbase : base ≤ w.heap.size)
    (h : ∀ v' w', Own w' base v' (l ++ [b]) → w.grownBy w' v.ownBlock → (v'.ownBlock = v.ownBlock ∨ (v'.ownBlock = some w.heap.size ∧ w.grownBy w' none)) → wpList Try.prog ops Q rest (a.put o.dst v') w') : wpList Try.prog ops Q (o :: rest) a w := by
  obtain ⟨v', w', hrun, h2, h3, h4⟩ := app1_run w base o.type v l hown ad b c hb hl hbase
  refine wpList_plain hgd fun K hK => ?_
  unfold Oper.wp
  simp [execOp, ho, resolve, invoke, builtin, hs, hx, hrun, Result.andThen]
  exact hK _ _ (h v' w' h2 h3 h4)

/-- What stands behind the growing of the first k; those that come have their marks. -/
structure Grown (w W : World) (base m k gg H : Nat) (S : Nat → Value) (A : Nat → Option Addr) (n : Nat → Nat) (G : Nat → Value) : Prop where
  later : ∀ j, j < m → k ≤ j → Own W base (S j) (mks j (n j))
  own : ∀ j, j < k → Own W base (G j) (mks j (n j + 40))
  at_ : ∀ j, j < k → At W (A j) (mks j (n j))
  apart : ∀ j, j < k → ∀ b, (G j).ownBlock = some b → b ≠ gg ∧ ((S j).ownBlock = some b ∨ H ≤ b)
  row : W.ownsRow base 26 1 (.slice (some ⟨gg, 0, none⟩) m m) m ((List.range m).map G)
  kp : Kp (fun b => ∃ j, j < m ∧ (S j).ownBlock = some b) w W
  high : H ≤ W.heap.size

/-- While one grows: so many of its 40 are there. -/
structure Growing (w W : World) (base m k gg H K : Nat) (S : Nat → Value) (A : Nat → Option Addr) (n : Nat → Nat) (G : Nat → Value) (v : Value) (t : Nat) : Prop where
  later : ∀ j, j < m → k < j → Own W base (S j) (mks j (n j))
  own : ∀ j, j < k → Own W base (G j) (mks j (n j + 40))
  at_ : ∀ j, j < k → At W (A j) (mks j (n j))
  apart : ∀ j, j < k → ∀ b, (G j).ownBlock = some b → b ≠ gg ∧ ((S j).ownBlock = some b ∨ H ≤ b) ∧ b < K
  row : W.ownsRow base 26 1 (.slice (some ⟨gg, 0, none⟩) m m) m ((List.range m).map G)
  kp : Kp (fun b => ∃ j, j < m ∧ (S j).ownBlock = some b) w W
  high : K ≤ W.heap.size
  mine : Own W base v (mks k (n k + t))
  atk : At W (A k) (mks k (n k))
  blk : ∀ b, v.ownBlock = some b → (S k).ownBlock = some b ∨ K ≤ b

theorem at_take {w : World} {a : Option Addr} {l : List UInt8} (h : At w a l) (i : Nat) : At w a (l.take i) := by
  intro hne
  obtain ⟨b, o, rfl, hc⟩ := h (fun e => hne (by rw [e]; simp))
  refine ⟨b, o, rfl, fun j hj => ?_⟩
  have hj' : j < l.length := by rw [List.length_take] at hj; omega
  rw [hc j hj', List.getElem_take]

theorem block_of {A : Nat → Option Addr} {n c : Nat → Nat} {S : Nat → Value} (hS : ∀ j, S j = .slice (A j) (n j) (c j)) (j : Nat) (ad : Addr) (h : A j = some ad) : (S j).ownBlock = some ad.block := by rw [hS, h]; rfl

theorem Grown.grow {w W : World} {base m k gg H : Nat} {S : Nat → Value} {A : Nat → Option Addr} {n c : Nat → Nat} {G : Nat → Value} (h : Grown w W base m k gg H S A n G) (hk : k < m) (hS : ∀ j, S j = .slice (A j) (n j) (c j)) : Growing w W base m k gg H W.heap.size S A n G (S k) 0 := by
  have h0 := h.later k hk (Nat.le_refl _)
  refine ⟨fun j hj hkj => h.later j hj (by omega), h.own, h.at_, fun j hj b hb => ⟨(h.apart j hj b hb).1, (h.apart j hj b hb).2, ((h.own j hj).lt b hb).2⟩, h.row, h.kp, Nat.le_refl _, h0, ?_, fun b hb => .inl hb⟩
  rw [hS] at h0
  exact h0.at

/-- One byte more. -/
theorem Growing.step {w W W' : World} {base m k gg H K : Nat} {S : Nat → Value} {A : Nat → Option Addr} {n c : Nat → Nat} {G : Nat → Value} {v v' : Value} {t : Nat} (h : Growing w W base m k gg H K S A n G v t) (hk : k < m) (hS : ∀ j, S j = .slice (A j) (n j) (c j))
    (hd : ∀ i j, i < m → j < m → i ≠ j → ∀ b, (S i).ownBlock = some b → (S j).ownBlock ≠ some b) (hlow : ∀ j, j < m → ∀ b, (S j).ownBlock = some b → b < H ∧ b ≠ gg) (hgg : gg < K) (hHK : H ≤ K) (hwK : w.heap.size ≤ K) (hA0 : ∀ ad, A k = some ad → ad = ⟨ad.block, 0, none⟩)
    (ho : Own W' base v' (mks k (n k + t) ++ [mkB k (n k + t)])) (hg : W.grownBy W' v.ownBlock) (hb : v'.ownBlock = v.ownBlock ∨ (v'.ownBlock = some W.heap.size ∧ W.grownBy W' none)) : Growing w W' base m k gg H K S A n G v' (t + 1) := by
  have hkp := Kp.grown hg
  have hvS : ∀ b, v.ownBlock = some b → ∀ j, j < m → j ≠ k → (S j).ownBlock ≠ some b := fun b hvb j hj hjk e => by
    rcases h.blk b hvb with h1 | h1
    · exact hd k j hk hj (fun e2 => hjk e2.symm) b h1 e
    · have := (hlow j hj b e).1; omega
  have hvg : ∀ b, v.ownBlock = some b → b ≠ gg := fun b hvb e => by
    rcases h.blk b hvb with h1 | h1
    · exact (hlow k hk b h1).2 e
    · omega
  refine ⟨fun j hj hkj => ?_, fun j hj => ?_, fun j hj => ?_, h.apart, ?_, ?_, Nat.le_trans h.high hg.size, ?_, ?_, fun b hvb => ?_⟩
  · exact (h.later j hj hkj).kp hkp (fun b hb1 hb2 => hvS b hb2 j hj (by omega) hb1)
  · refine (h.own j hj).kp hkp (fun b hb1 hb2 => ?_)
    obtain ⟨_, h2, h3⟩ := h.apart j hj b hb1
    rcases h.blk b hb2 with h4 | h4
    · rcases h2 with h5 | h5
      · exact hd k j hk (by omega) (by omega) b h4 h5
      · have := (hlow k hk b h4).1; omega
    · omega
  · refine (h.at_ j hj).kp hkp (fun ad e hb2 => ?_)
    exact hvS _ hb2 j (by omega) (by omega) (block_of hS j ad e)
  · refine owns_kp h.row hkp (fun b hb1 hb2 => ?_)
    simp only [Value.ownBlock, Option.some.injEq] at hb1
    exact hvg b hb2 hb1.symm
  · refine ⟨hg.os.trans h.kp.os, hg.tape.trans h.kp.tape, hg.output.trans h.kp.output, Nat.le_trans h.kp.size hg.size, fun b hb1 hb2 => ?_⟩
    rw [hg.block b (Nat.lt_of_lt_of_le hb1 h.kp.size) (fun e => ?_)]
    · exact h.kp.block b hb1 hb2
    · rcases h.blk b e.symm with h1 | h1
      · exact hb2 ⟨k, hk, h1⟩
      · omega
  · rw [show n k + (t + 1) = n k + t + 1 by omega, mks_snoc]
    exact ho
  · rcases hb with h1 | ⟨_, h1⟩
    · rcases Nat.eq_zero_or_pos (n k) with hn0 | hn0
      · rw [hn0]; exact fun hne => absurd rfl hne
      · obtain ⟨b0, o0, hAk, _⟩ := h.atk (fun e => by have := mks_len k (n k); rw [e] at this; simp at this; omega)
        have ho0 := hA0 _ hAk
        simp only [Addr.mk.injEq, true_and] at ho0
        by_cases hvb : v.ownBlock = some b0
        · obtain ⟨g, cp, hv', _, hat'⟩ := ho.form_pos (by simp)
          rw [hv'] at h1
          have e1 : some g = some b0 := h1.trans hvb
          cases e1
          rw [hAk, ho0.1]
          have e2 : mks k (n k) = (mks k (n k + t) ++ [mkB k (n k + t)]).take (n k) := by
            rw [List.take_append_of_le_length (by rw [mks_len]; omega), mks_take]
          rw [e2]
          exact at_take hat' _
        · exact h.atk.kp hkp (fun ad e hb2 => hvb (by rw [hAk] at e; cases e; exact hb2))
    · exact h.atk.kp (Kp.grown h1) (fun ad _ e => by cases e)
  · rcases hb with h1 | h1
    · exact h.blk b (by rw [← h1]; exact hvb)
    · rw [h1.1] at hvb
      cases hvb
      exact .inr h.high
theorem Growing.below {w W W' : World} {base m k gg H K : Nat} {S : Nat → Value} {A : Nat → Option Addr} {n : Nat → Nat} {G : Nat → Value} {v : Value} {t : Nat} (h : Growing w W base m k gg H K S A n G v t) (hb : Below W.heap.size W W') : Growing w W' base m k gg H K S A n G v t :=
  ⟨fun j hj hkj => (h.later j hj hkj).below hb, fun j hj => (h.own j hj).below hb, fun j hj => (h.at_ j hj).below hb, h.apart, owns_below h.row hb, h.kp.trans (Kp.of_below hb), Nat.le_trans h.high hb.size, h.mine.below hb, h.atk.below hb, h.blk⟩

theorem map_set_range (G : Nat → Value) (m k : Nat) (v : Value) : ((List.range m).map G).set k v = (List.range m).map (fun j => if j = k then v else G j) := by
  apply List.ext_getElem
  · simp
  · intro i h1 h2
    rw [List.getElem_set]
    simp only [List.getElem_map, List.getElem_range]
    by_cases e : k = i
    · rw [if_pos e, if_pos e.symm]
    · rw [if_neg e, if_neg (fun e2 => e e2.symm)]

/-- All 40 are there: it is put into its place. -/
theorem Growing.put {w W : World} {base m k gg H K : Nat} {S : Nat → Value} {A : Nat → Option Addr} {n c : Nat → Nat} {G : Nat → Value} {v : Value} (h : Growing w W base m k gg H K S A n G v 40) (hk : k < m) (hS : ∀ j, S j = .slice (A j) (n j) (c j))
    (hlow : ∀ j, j < m → ∀ b, (S j).ownBlock = some b → b < H ∧ b ≠ gg) (hgg : gg < K) (hHK : H ≤ K) (hwg : w.heap.size ≤ gg) : Grown w (W.setCell ⟨gg, k, none⟩ v) base m (k + 1) gg H S A n (fun j => if j = k then v else G j) := by
  have hvg : ∀ b, v.ownBlock = some b → b ≠ gg := fun b hvb e => by
    rcases h.blk b hvb with h1 | h1
    · exact (hlow k hk b h1).2 e
    · omega
  have hkp : Kp (fun b => b = gg) W (W.setCell ⟨gg, k, none⟩ v) := Kp.setCell (S := fun b => b = gg) (p := ⟨gg, k, none⟩) (Kp.refl _ W) rfl v
  have hA : ∀ j, j < m → ∀ ad, A j = some ad → ¬ ad.block = gg := fun j hj ad e e2 => (hlow j hj _ (block_of hS j ad e)).2 e2
  refine ⟨fun j hj hkj => (h.later j hj (by omega)).kp hkp (fun b hb e => (hlow j hj b hb).2 e), fun j hj => ?_, fun j hj => ?_, fun j hj b hb => ?_, ?_, ?_, ?_⟩
  · by_cases e : j = k
    · subst e; rw [if_pos rfl]; exact h.mine.kp hkp (fun b hb e => hvg b hb e)
    · rw [if_neg e]; exact (h.own j (by omega)).kp hkp (fun b hb e2 => (h.apart j (by omega) b hb).1 e2)
  · by_cases e : j = k
    · subst e; exact h.atk.kp hkp (hA j hk)
    · exact (h.at_ j (by omega)).kp hkp (hA j (by omega))
  · by_cases e : j = k
    · subst e
      rw [if_pos rfl] at hb
      refine ⟨hvg b hb, ?_⟩
      rcases h.blk b hb with h1 | h1
      · exact .inl h1
      · exact .inr (by omega)
    · rw [if_neg e] at hb
      exact ⟨(h.apart j (by omega) b hb).1, (h.apart j (by omega) b hb).2.1⟩
  · have := (World.ownsRow.stored h.row k v).1
    rw [map_set_range] at this
    exact this
  · refine ⟨h.kp.os, h.kp.tape, h.kp.output, Nat.le_trans h.kp.size hkp.size, fun b hb1 hb2 => ?_⟩
    rw [hkp.block b (Nat.lt_of_lt_of_le hb1 h.kp.size) (by omega)]
    exact h.kp.block b hb1 hb2
  · exact Nat.le_trans hHK (Nat.le_trans h.high hkp.size)
end Go.Proofs.Ytpngnmogjmdmhaa
