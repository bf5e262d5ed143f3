/- Rows of numbers, texts, dependencies and qualities: copies, sameness. -/
import Derived.Test.YtflapjehkgefdaaGreatCnt
namespace Go.Proofs.YtflapjehkgefdaaGreat
open Go.RowKit

/-- Numbers. -/
def ic (x : Int) : List Value := [.int .i64 x]
theorem ic_len (x : Int) : (ic x).length = 1 := rfl
def itAt (L : List Int) (i : Nat) : Int := L.getD i 0
theorem itAt_eq {L : List Int} {i : Nat} (h : i < L.length) : L[i] = itAt L i := by simp [itAt, h]
def IAt (w : World) (a : Option Addr) (L : List Int) : Prop := CAt w a (L.flatMap ic)
def IOwn (w : World) (base : Nat) (v : Value) (L : List Int) : Prop := w.ownsRow base 3 1 v L.length (L.flatMap ic)
theorem IAt.below {w w' : World} {a : Option Addr} {C : List Int} (h : IAt w a C) (hb : Below w.heap.size w w') : IAt w' a C := CAt.below h hb
theorem IAt.place {w : World} {a : Option Addr} {C : List Int} (h : IAt w a C) (h0 : 0 < C.length) : ∃ b o, a = some ⟨b, o, none⟩ := flat_place ic 1 ic_len (by omega) h h0
theorem IAt.one {w : World} {b o : Nat} {C : List Int} (h : IAt w (some ⟨b, o, none⟩) C) {i : Nat} (hi : i < C.length) : w.cell? ⟨b, o + i, none⟩ = some (.int .i64 (itAt C i)) := by
  have k0 := flat_cell ic 1 ic_len (by omega) h hi 0 (by omega)
  rw [Nat.mul_one, Nat.add_zero] at k0
  rw [k0, ← itAt_eq hi]; rfl
theorem IOwn.iat {w : World} {base n c : Nat} {a : Option Addr} {C : List Int} (h : IOwn w base (.slice a n c) C) : IAt w a C := owns_cat h
theorem IOwn.below {w w' : World} {base : Nat} {v : Value} {C : List Int} (h : IOwn w base v C) (hb : Below w.heap.size w w') : IOwn w' base v C := owns_below h hb
theorem IOwn.nil (w : World) (base : Nat) : IOwn w base (.slice none 0 0) [] := World.ownsRow_nil _ _ _ _
theorem info3 : (Tryz.prog.info? 3).map (fun i => (i.zero, i.size, i.bytes)) = some (some (.int .i64 0), 1, 8) := by kernel_rfl
theorem one_I (x : Int) : ∀ u ∈ [Value.int .i64 x], u.oneCell' = true := by
  intro u hu
  simp at hu
  subst hu; rfl

/-- Dependencies: kind and id. -/
abbrev Dp := Int × Int
def dc2 (x : Dp) : List Value := [.int .u8 x.1, .int .i64 x.2]
theorem dc2_len (x : Dp) : (dc2 x).length = 2 := rfl
def dpAt (L : List Dp) (i : Nat) : Dp := L.getD i (0, 0)
theorem dpAt_eq {L : List Dp} {i : Nat} (h : i < L.length) : L[i] = dpAt L i := by simp [dpAt, h]
def DAt (w : World) (a : Option Addr) (L : List Dp) : Prop := CAt w a (L.flatMap dc2)
def DOwn (w : World) (base : Nat) (v : Value) (L : List Dp) : Prop := w.ownsRow base 119 2 v L.length (L.flatMap dc2)
theorem DAt.below {w w' : World} {a : Option Addr} {C : List Dp} (h : DAt w a C) (hb : Below w.heap.size w w') : DAt w' a C := CAt.below h hb
theorem DAt.nil (w : World) (a : Option Addr) : DAt w a [] := CAt.nil w a
theorem DAt.place {w : World} {a : Option Addr} {C : List Dp} (h : DAt w a C) (h0 : 0 < C.length) : ∃ b o, a = some ⟨b, o, none⟩ := flat_place dc2 2 dc2_len (by omega) h h0
theorem DAt.one {w : World} {b o : Nat} {C : List Dp} (h : DAt w (some ⟨b, o, none⟩) C) {i : Nat} (hi : i < C.length) :
    w.cell? ⟨b, o + i * 2, none⟩ = some (.int .u8 (dpAt C i).1) ∧ w.cell? ⟨b, o + i * 2 + 1, none⟩ = some (.int .i64 (dpAt C i).2) := by
  have k := fun r hr => flat_cell dc2 2 dc2_len (by omega) h hi r hr
  have k0 := k 0 (by omega)
  have k1 := k 1 (by omega)
  rw [dpAt_eq hi] at k0 k1
  exact ⟨k0, k1⟩
theorem DOwn.dat {w : World} {base n c : Nat} {a : Option Addr} {C : List Dp} (h : DOwn w base (.slice a n c) C) : DAt w a C := owns_cat h
theorem DOwn.below {w w' : World} {base : Nat} {v : Value} {C : List Dp} (h : DOwn w base v C) (hb : Below w.heap.size w w') : DOwn w' base v C := owns_below h hb
theorem DOwn.nil (w : World) (base : Nat) : DOwn w base (.slice none 0 0) [] := World.ownsRow_nil _ _ _ _
theorem info114 : (Tryz.prog.info? 119).map (fun i => (i.zero, i.size, i.bytes)) = some (some (.agg #[.int .u8 0, .int .i64 0]), 2, 16) := by kernel_rfl
theorem one_D (x y : Int) : ∀ u ∈ [Value.int .u8 x, .int .i64 y], u.oneCell' = true := by
  intro u hu
  simp at hu
  rcases hu with rfl | rfl <;> rfl

def QOwn (w : World) (base : Nat) (v : Value) (L : List Qu) : Prop := w.ownsRow base 64 4 v L.length (L.flatMap qc)
theorem QOwn.qat {w : World} {base n c : Nat} {a : Option Addr} {C : List Qu} (h : QOwn w base (.slice a n c) C) : QAt w a C := owns_cat h
theorem QOwn.below {w w' : World} {base : Nat} {v : Value} {C : List Qu} (h : QOwn w base v C) (hb : Below w.heap.size w w') : QOwn w' base v C := owns_below h hb
theorem QOwn.nil (w : World) (base : Nat) : QOwn w base (.slice none 0 0) [] := World.ownsRow_nil _ _ _ _
theorem info59 : (Tryz.prog.info? 64).map (fun i => (i.zero, i.size, i.bytes)) = some (some (.agg #[.string ByteArray.empty, .int .i64 0, .int .i64 0, .int .i64 0]), 4, 40) := by kernel_rfl
theorem one_Q (x : ByteArray) (y z u : Int) : ∀ t ∈ [Value.string x, .int .i64 y, .int .i64 z, .int .i64 u], t.oneCell' = true := by
  intro t ht
  simp at ht
  rcases ht with rfl | rfl | rfl | rfl <;> rfl

set_option maxRecDepth 100000 in
set_option maxHeartbeats 1000000 in
theorem copyints (a : Option Addr) (k c : Nat) (L : List Int) (w : World) (hn : L.length = k) (hl : k * 8 ≤ 140737488355328) (hat : IAt w a L) :
    Calls Tryz.prog 19 #[.slice a k c] w fun e w' => ∃ ra rc, e = .returned (.slice ra k rc) ∧ k ≤ rc ∧ IOwn w' w.heap.size (.slice ra k rc) L ∧ Below w.heap.size w w' := by
  obtain ⟨i0, hi, hz0, hz1, hz2⟩ := info_parts info3
  replace hn := hid hn
  replace hat := hid hat
  go_enter Tryz.func19, Tryz.ntmps19
  go_wp2_with fail
  go_loopw [3, 4] (fun v i wr => ∃ j : Nat, j ≤ k ∧ i = .int .i64 (j : Int) ∧ Hid (IOwn wr w.heap.size v (L.take j)) ∧ Below w.heap.size w wr) (fun _ i _ => k - (intOf i).toNat)
  case atStart => exact ⟨0, Nat.zero_le _, rfl, hid (IOwn.nil _ _), Below.refl _ _⟩
  case round =>
    obtain ⟨j, hj, rfl, hown, hb⟩ := hrel
    obtain ⟨va, vc, e, hvc⟩ := owns_form hown.out
    subst e
    by_cases hlt : j < k
    · have hjL : j < L.length := by rw [hn.out]; exact hlt
      obtain ⟨b, o, e⟩ := hat.out.place (by omega)
      subst e
      have x0 := (hat.out.below hb).one hjL
      have hlen : (L.take j).length = j := by rw [List.length_take]; omega
      have hnext : L.take (j + 1) = L.take j ++ [itAt L j] := by rw [take_more hjL, itAt_eq hjL]
      replace hnext := hid hnext
      replace hlen := hid hlen
      rw [hlen.out] at hown hvc ⊢
      generalize hDD : L.take j = D at *
      replace hDD := hid hDD
      generalize itAt L j = X at *
      have bl := below_lit wr (.cells #[.int .i64 X] 3)
      have B0 := bnext hb bl
      have hown2 := hid (hown.out.below bl)
      have hcat := hid (cat_lit wr 3 [.int .i64 X] #[.int .i64 X] rfl)
      have hone := hid (one_I X)
      have hlenD : D.length = j := hlen.out
      replace hlenD := hid hlenD
      have hown2' : (wr.alloc (.cells #[.int .i64 X] 3)).ownsRow w.heap.size 3 1 (.slice va j vc) j (D.flatMap ic) := by
        have := hown2.out
        unfold IOwn at this
        rw [hlenD.out] at this
        exact this
      replace hown2' := hid hown2'
      have hbd : (j + 1) * 8 ≤ 140737488355328 := Nat.le_trans (Nat.mul_le_mul_right _ hlt) hl
      go_wp2_with (at_builtin; refine Hid.out ?_)
      refine wpList_cat _ rfl (.tmp 11) (.tmp 16) 22 rfl w.heap.size 3 i0 _ 1 8 Tryz.underlying22 hi hz0 hz1 hz2 rfl (by omega) _ _ _ rfl hown2'.out (some ⟨wr.heap.size, 0, none⟩) 1 1 [.int .i64 X] rfl rfl hcat.out hone.out (by unfold maxLen; omega) hbd B0.size ?_
      intro v' w4 ho4 hg4 hv4
      have hown4 : IOwn w4 w.heap.size v' (D ++ [X]) := by
        unfold IOwn
        rw [List.length_append, hlenD.out]
        simp only [List.flatMap_append]
        exact ho4
      have B4 : Below w.heap.size w w4 := Below.grown B0 hg4 B0.size (fun j hj => (hown2'.out.lt _ hj).1)
      replace hown4 := hid hown4
      clear ho4 hg4 hv4 hcat
      go_wp2_with fail
      go_roundw
      case rel => exact ⟨j + 1, by omega, by go_num, hid (by rw [hnext.out]; exact hown4.out), B4⟩
      case measure => simp [intOf]; omega
    · have hje : j = k := by omega
      subst hje
      have hf : L.take j = L := by rw [← hn.out, List.take_length]
      rw [hf] at hown hvc ⊢
      rw [hn.out] at hown hvc ⊢
      replace hf := hid hf
      go_wp2
      go_ret
      exact ⟨va, vc, rfl, hvc, hown.out, hb⟩

set_option maxRecDepth 100000 in
set_option maxHeartbeats 1000000 in
theorem copytexts (a : Option Addr) (k c : Nat) (L : List ByteArray) (w : World) (hn : L.length = k) (hl : k * 16 ≤ 140737488355328) (hat : TAt w a L) :
    Calls Tryz.prog 53 #[.slice a k c] w fun e w' => ∃ ra rc, e = .returned (.slice ra k rc) ∧ k ≤ rc ∧ TOwn w' w.heap.size (.slice ra k rc) L ∧ Below w.heap.size w w' := by
  obtain ⟨i0, hi, hz0, hz1, hz2⟩ := info_parts info9
  replace hn := hid hn
  replace hat := hid hat
  go_enter Tryz.func53, Tryz.ntmps53
  go_wp2_with fail
  go_loopw [3, 4] (fun v i wr => ∃ j : Nat, j ≤ k ∧ i = .int .i64 (j : Int) ∧ Hid (TOwn wr w.heap.size v (L.take j)) ∧ Below w.heap.size w wr) (fun _ i _ => k - (intOf i).toNat)
  case atStart => exact ⟨0, Nat.zero_le _, rfl, hid (TOwn.nil _ _), Below.refl _ _⟩
  case round =>
    obtain ⟨j, hj, rfl, hown, hb⟩ := hrel
    obtain ⟨va, vc, e, hvc⟩ := owns_form hown.out
    subst e
    by_cases hlt : j < k
    · have hjL : j < L.length := by rw [hn.out]; exact hlt
      obtain ⟨b, o, e⟩ := hat.out.place (by omega)
      subst e
      have x0 := (hat.out.below hb).one hjL
      have hlen : (L.take j).length = j := by rw [List.length_take]; omega
      have hnext : L.take (j + 1) = L.take j ++ [txAt L j] := by rw [take_more hjL, txAt_eq hjL]
      replace hnext := hid hnext
      replace hlen := hid hlen
      rw [hlen.out] at hown hvc ⊢
      generalize hDD : L.take j = D at *
      replace hDD := hid hDD
      generalize txAt L j = X at *
      have bl := below_lit wr (.cells #[.string X] 9)
      have B0 := bnext hb bl
      have hown2 := hid (hown.out.below bl)
      have hcat := hid (cat_lit wr 9 [.string X] #[.string X] rfl)
      have hone := hid (one_S X)
      have hlenD : D.length = j := hlen.out
      replace hlenD := hid hlenD
      have hown2' : (wr.alloc (.cells #[.string X] 9)).ownsRow w.heap.size 9 1 (.slice va j vc) j (D.map S) := by
        have := hown2.out
        unfold TOwn at this
        rw [hlenD.out] at this
        exact this
      replace hown2' := hid hown2'
      have hbd : (j + 1) * 16 ≤ 140737488355328 := Nat.le_trans (Nat.mul_le_mul_right _ hlt) hl
      go_wp2_with (at_builtin; refine Hid.out ?_)
      refine wpList_cat _ rfl (.tmp 11) (.tmp 16) 65 rfl w.heap.size 9 i0 _ 1 16 Tryz.underlying65 hi hz0 hz1 hz2 rfl (by omega) _ _ _ rfl hown2'.out (some ⟨wr.heap.size, 0, none⟩) 1 1 [.string X] rfl rfl hcat.out hone.out (by unfold maxLen; omega) hbd B0.size ?_
      intro v' w4 ho4 hg4 hv4
      have hown4 : TOwn w4 w.heap.size v' (D ++ [X]) := by
        unfold TOwn
        rw [List.length_append, hlenD.out]
        simp only [List.map_append]
        exact ho4
      have B4 : Below w.heap.size w w4 := Below.grown B0 hg4 B0.size (fun j hj => (hown2'.out.lt _ hj).1)
      replace hown4 := hid hown4
      clear ho4 hg4 hv4 hcat
      go_wp2_with fail
      go_roundw
      case rel => exact ⟨j + 1, by omega, by go_num, hid (by rw [hnext.out]; exact hown4.out), B4⟩
      case measure => simp [intOf]; omega
    · have hje : j = k := by omega
      subst hje
      have hf : L.take j = L := by rw [← hn.out, List.take_length]
      rw [hf] at hown hvc ⊢
      rw [hn.out] at hown hvc ⊢
      replace hf := hid hf
      go_wp2
      go_ret
      exact ⟨va, vc, rfl, hvc, hown.out, hb⟩

set_option maxRecDepth 100000 in
set_option maxHeartbeats 1000000 in
theorem copydeps (a : Option Addr) (k c : Nat) (L : List Dp) (w : World) (hn : L.length = k) (hl : k * 16 ≤ 140737488355328) (hat : DAt w a L) :
    Calls Tryz.prog 54 #[.slice a k c] w fun e w' => ∃ ra rc, e = .returned (.slice ra k rc) ∧ k ≤ rc ∧ DOwn w' w.heap.size (.slice ra k rc) L ∧ Below w.heap.size w w' := by
  obtain ⟨i0, hi, hz0, hz1, hz2⟩ := info_parts info114
  replace hn := hid hn
  replace hat := hid hat
  go_enter Tryz.func54, Tryz.ntmps54
  go_wp2_with fail
  go_loopw [3, 4] (fun v i wr => ∃ j : Nat, j ≤ k ∧ i = .int .i64 (j : Int) ∧ Hid (DOwn wr w.heap.size v (L.take j)) ∧ Below w.heap.size w wr) (fun _ i _ => k - (intOf i).toNat)
  case atStart => exact ⟨0, Nat.zero_le _, rfl, hid (DOwn.nil _ _), Below.refl _ _⟩
  case round =>
    obtain ⟨j, hj, rfl, hown, hb⟩ := hrel
    obtain ⟨va, vc, e, hvc⟩ := owns_form hown.out
    subst e
    by_cases hlt : j < k
    · have hjL : j < L.length := by rw [hn.out]; exact hlt
      obtain ⟨b, o, e⟩ := hat.out.place (by omega)
      subst e
      obtain ⟨x0, x1⟩ := (hat.out.below hb).one hjL
      have hlen : (L.take j).length = j := by rw [List.length_take]; omega
      have hnext : L.take (j + 1) = L.take j ++ [dpAt L j] := by rw [take_more hjL, dpAt_eq hjL]
      replace hnext := hid hnext
      replace hlen := hid hlen
      rw [hlen.out] at hown hvc ⊢
      generalize hDD : L.take j = D at *
      replace hDD := hid hDD
      generalize dpAt L j = X at *
      obtain ⟨X0, X1⟩ := X
      dsimp only at *
      have bl := below_lit wr (.cells #[.int .u8 X0, .int .i64 X1] 119)
      have B0 := bnext hb bl
      have hown2 := hid (hown.out.below bl)
      have hcat := hid (cat_lit wr 119 [.int .u8 X0, .int .i64 X1] #[.int .u8 X0, .int .i64 X1] rfl)
      have hone := hid (one_D X0 X1)
      have hlenD : D.length = j := hlen.out
      replace hlenD := hid hlenD
      have hown2' : (wr.alloc (.cells #[.int .u8 X0, .int .i64 X1] 119)).ownsRow w.heap.size 119 2 (.slice va j vc) j (D.flatMap dc2) := by
        have := hown2.out
        unfold DOwn at this
        rw [hlenD.out] at this
        exact this
      replace hown2' := hid hown2'
      have hbd : (j + 1) * 16 ≤ 140737488355328 := Nat.le_trans (Nat.mul_le_mul_right _ hlt) hl
      go_wp2_with (at_builtin; refine Hid.out ?_)
      refine wpList_cat _ rfl (.tmp 11) (.tmp 16) 30 rfl w.heap.size 119 i0 _ 2 16 Tryz.underlying30 hi hz0 hz1 hz2 rfl (by omega) _ _ _ rfl hown2'.out (some ⟨wr.heap.size, 0, none⟩) 1 1 [.int .u8 X0, .int .i64 X1] rfl rfl hcat.out hone.out (by unfold maxLen; omega) hbd B0.size ?_
      intro v' w4 ho4 hg4 hv4
      have hown4 : DOwn w4 w.heap.size v' (D ++ [(X0, X1)]) := by
        unfold DOwn
        rw [List.length_append, hlenD.out]
        simp only [List.flatMap_append]
        exact ho4
      have B4 : Below w.heap.size w w4 := Below.grown B0 hg4 B0.size (fun j hj => (hown2'.out.lt _ hj).1)
      replace hown4 := hid hown4
      clear ho4 hg4 hv4 hcat
      go_wp2_with fail
      go_roundw
      case rel => exact ⟨j + 1, by omega, by go_num, hid (by rw [hnext.out]; exact hown4.out), B4⟩
      case measure => simp [intOf]; omega
    · have hje : j = k := by omega
      subst hje
      have hf : L.take j = L := by rw [← hn.out, List.take_length]
      rw [hf] at hown hvc ⊢
      rw [hn.out] at hown hvc ⊢
      replace hf := hid hf
      go_wp2
      go_ret
      exact ⟨va, vc, rfl, hvc, hown.out, hb⟩

set_option maxRecDepth 100000 in
set_option maxHeartbeats 1000000 in
theorem copyquals (a : Option Addr) (k c : Nat) (L : List Qu) (w : World) (hn : L.length = k) (hl : k * 40 ≤ 140737488355328) (hat : QAt w a L) :
    Calls Tryz.prog 22 #[.slice a k c] w fun e w' => ∃ ra rc, e = .returned (.slice ra k rc) ∧ k ≤ rc ∧ QOwn w' w.heap.size (.slice ra k rc) L ∧ Below w.heap.size w w' := by
  obtain ⟨i0, hi, hz0, hz1, hz2⟩ := info_parts info59
  replace hn := hid hn
  replace hat := hid hat
  go_enter Tryz.func22, Tryz.ntmps22
  go_wp2_with fail
  go_loopw [3, 4] (fun v i wr => ∃ j : Nat, j ≤ k ∧ i = .int .i64 (j : Int) ∧ Hid (QOwn wr w.heap.size v (L.take j)) ∧ Below w.heap.size w wr) (fun _ i _ => k - (intOf i).toNat)
  case atStart => exact ⟨0, Nat.zero_le _, rfl, hid (QOwn.nil _ _), Below.refl _ _⟩
  case round =>
    obtain ⟨j, hj, rfl, hown, hb⟩ := hrel
    obtain ⟨va, vc, e, hvc⟩ := owns_form hown.out
    subst e
    by_cases hlt : j < k
    · have hjL : j < L.length := by rw [hn.out]; exact hlt
      obtain ⟨b, o, e⟩ := hat.out.place (by omega)
      subst e
      obtain ⟨x0, x1, x2, x3⟩ := (hat.out.below hb).one hjL
      have hlen : (L.take j).length = j := by rw [List.length_take]; omega
      have hnext : L.take (j + 1) = L.take j ++ [quAt L j] := by rw [take_more hjL, quAt_eq hjL]
      replace hnext := hid hnext
      replace hlen := hid hlen
      rw [hlen.out] at hown hvc ⊢
      generalize hDD : L.take j = D at *
      replace hDD := hid hDD
      generalize quAt L j = X at *
      obtain ⟨X0, X1, X2, X3⟩ := X
      dsimp only at *
      have bl := below_lit wr (.cells #[.string X0, .int .i64 X1, .int .i64 X2, .int .i64 X3] 64)
      have B0 := bnext hb bl
      have hown2 := hid (hown.out.below bl)
      have hcat := hid (cat_lit wr 64 [.string X0, .int .i64 X1, .int .i64 X2, .int .i64 X3] #[.string X0, .int .i64 X1, .int .i64 X2, .int .i64 X3] rfl)
      have hone := hid (one_Q X0 X1 X2 X3)
      have hlenD : D.length = j := hlen.out
      replace hlenD := hid hlenD
      have hown2' : (wr.alloc (.cells #[.string X0, .int .i64 X1, .int .i64 X2, .int .i64 X3] 64)).ownsRow w.heap.size 64 4 (.slice va j vc) j (D.flatMap qc) := by
        have := hown2.out
        unfold QOwn at this
        rw [hlenD.out] at this
        exact this
      replace hown2' := hid hown2'
      have hbd : (j + 1) * 40 ≤ 140737488355328 := Nat.le_trans (Nat.mul_le_mul_right _ hlt) hl
      go_wp2_with (at_builtin; refine Hid.out ?_)
      refine wpList_cat _ rfl (.tmp 11) (.tmp 16) 25 rfl w.heap.size 64 i0 _ 4 40 Tryz.underlying25 hi hz0 hz1 hz2 rfl (by omega) _ _ _ rfl hown2'.out (some ⟨wr.heap.size, 0, none⟩) 1 1 [.string X0, .int .i64 X1, .int .i64 X2, .int .i64 X3] rfl rfl hcat.out hone.out (by unfold maxLen; omega) hbd B0.size ?_
      intro v' w4 ho4 hg4 hv4
      have hown4 : QOwn w4 w.heap.size v' (D ++ [(X0, X1, X2, X3)]) := by
        unfold QOwn
        rw [List.length_append, hlenD.out]
        simp only [List.flatMap_append]
        exact ho4
      have B4 : Below w.heap.size w w4 := Below.grown B0 hg4 B0.size (fun j hj => (hown2'.out.lt _ hj).1)
      replace hown4 := hid hown4
      clear ho4 hg4 hv4 hcat
      go_wp2_with fail
      go_roundw
      case rel => exact ⟨j + 1, by omega, by go_num, hid (by rw [hnext.out]; exact hown4.out), B4⟩
      case measure => simp [intOf]; omega
    · have hje : j = k := by omega
      subst hje
      have hf : L.take j = L := by rw [← hn.out, List.take_length]
      rw [hf] at hown hvc ⊢
      rw [hn.out] at hown hvc ⊢
      replace hf := hid hf
      go_wp2
      go_ret
      exact ⟨va, vc, rfl, hvc, hown.out, hb⟩

set_option maxRecDepth 100000 in
theorem sameints (a a' : Option Addr) (k c c' : Nat) (L : List Int) (w : World) (hn : L.length = k) (hl : k ≤ 4611686018427387904) (hat : IAt w a L) (hat' : IAt w a' L) :
    Calls Tryz.prog 10 #[.slice a k c, .slice a' k c'] w fun e w' => e = .returned (.bool true) ∧ Below w.heap.size w w' := by
  replace hn := hid hn
  replace hat := hid hat
  replace hat' := hid hat'
  go_enter Tryz.func10, Tryz.ntmps10
  go_wp2_with fail
  go_loopw [5] (fun i wr => ∃ j : Nat, j ≤ k ∧ i = .int .i64 (j : Int) ∧ Below w.heap.size w wr) (fun i _ => k - (intOf i).toNat)
  case atStart => exact ⟨0, Nat.zero_le _, rfl, Below.refl _ _⟩
  case round =>
    obtain ⟨j, hj, rfl, hb⟩ := hrel
    by_cases hlt : j < k
    · have hjT : j < L.length := by rw [hn.out]; exact hlt
      obtain ⟨b, o, e⟩ := hat.out.place (by omega)
      subst e
      obtain ⟨b', o', e⟩ := hat'.out.place (by omega)
      subst e
      have x0 := (hat.out.below hb).one hjT
      have y0 := (hat'.out.below hb).one hjT
      generalize itAt L j = X at *
      go_wp2_with fail
      go_quiet (fail)
      have B1 := below_drewN hb nq
      go_wp2_with fail
      go_roundw
      case rel => exact ⟨j + 1, by omega, by go_num, B1⟩
      case measure => simp [intOf]; omega
    · have hje : j = k := by omega
      subst hje
      go_wp2
      go_ret
      exact ⟨rfl, hb⟩

set_option maxRecDepth 100000 in
theorem samedeps (a a' : Option Addr) (k c c' : Nat) (L : List Dp) (w : World) (hn : L.length = k) (hl : k ≤ 4611686018427387904) (hat : DAt w a L) (hat' : DAt w a' L) :
    Calls Tryz.prog 71 #[.slice a k c, .slice a' k c'] w fun e w' => e = .returned (.bool true) ∧ Below w.heap.size w w' := by
  replace hn := hid hn
  replace hat := hid hat
  replace hat' := hid hat'
  go_enter Tryz.func71, Tryz.ntmps71
  go_wp2_with fail
  go_loopw [5] (fun i wr => ∃ j : Nat, j ≤ k ∧ i = .int .i64 (j : Int) ∧ Below w.heap.size w wr) (fun i _ => k - (intOf i).toNat)
  case atStart => exact ⟨0, Nat.zero_le _, rfl, Below.refl _ _⟩
  case round =>
    obtain ⟨j, hj, rfl, hb⟩ := hrel
    by_cases hlt : j < k
    · have hjT : j < L.length := by rw [hn.out]; exact hlt
      obtain ⟨b, o, e⟩ := hat.out.place (by omega)
      subst e
      obtain ⟨b', o', e⟩ := hat'.out.place (by omega)
      subst e
      obtain ⟨x0, x1⟩ := (hat.out.below hb).one hjT
      obtain ⟨y0, y1⟩ := (hat'.out.below hb).one hjT
      generalize dpAt L j = X at *
      obtain ⟨X0, X1⟩ := X
      dsimp only at *
      go_wp2_with fail
      go_quiet (fail)
      have B1 := below_drewN hb nq
      go_wp2_with fail
      go_roundw
      case rel => exact ⟨j + 1, by omega, by go_num, B1⟩
      case measure => simp [intOf]; omega
    · have hje : j = k := by omega
      subst hje
      go_wp2
      go_ret
      exact ⟨rfl, hb⟩

set_option maxRecDepth 100000 in
theorem samequals (a a' : Option Addr) (k c c' : Nat) (L : List Qu) (w : World) (hn : L.length = k) (hl : k ≤ 4611686018427387904) (hat : QAt w a L) (hat' : QAt w a' L) :
    Calls Tryz.prog 32 #[.slice a k c, .slice a' k c'] w fun e w' => e = .returned (.bool true) ∧ Below w.heap.size w w' := by
  replace hn := hid hn
  replace hat := hid hat
  replace hat' := hid hat'
  go_enter Tryz.func32, Tryz.ntmps32
  go_wp2_with fail
  go_loopw [5] (fun i wr => ∃ j : Nat, j ≤ k ∧ i = .int .i64 (j : Int) ∧ Below w.heap.size w wr) (fun i _ => k - (intOf i).toNat)
  case atStart => exact ⟨0, Nat.zero_le _, rfl, Below.refl _ _⟩
  case round =>
    obtain ⟨j, hj, rfl, hb⟩ := hrel
    by_cases hlt : j < k
    · have hjT : j < L.length := by rw [hn.out]; exact hlt
      obtain ⟨b, o, e⟩ := hat.out.place (by omega)
      subst e
      obtain ⟨b', o', e⟩ := hat'.out.place (by omega)
      subst e
      obtain ⟨x0, x1, x2, x3⟩ := (hat.out.below hb).one hjT
      obtain ⟨y0, y1, y2, y3⟩ := (hat'.out.below hb).one hjT
      generalize quAt L j = X at *
      obtain ⟨X0, X1, X2, X3⟩ := X
      dsimp only at *
      go_wp2_with fail
      go_quiet (fail)
      have B1 := below_drewN hb nq
      go_wp2_with fail
      go_roundw
      case rel => exact ⟨j + 1, by omega, by go_num, B1⟩
      case measure => simp [intOf]; omega
    · have hje : j = k := by omega
      subst hje
      go_wp2
      go_ret
      exact ⟨rfl, hb⟩

end Go.Proofs.YtflapjehkgefdaaGreat
