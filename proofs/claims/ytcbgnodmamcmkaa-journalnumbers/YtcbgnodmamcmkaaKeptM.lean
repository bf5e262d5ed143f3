/- Made and Pick, as plain functions; the row of records that JournalKept keeps; arming. -/
import Derived.Test.YtcbgnodmamcmkaaKeptO2
import Derived.BigQuiet
import Derived.Deep.QuietTactic
namespace Go.Proofs.Ytcbgnodmamcmkaa
open Go.RowKit

theorem u8_int (X : Int) : (((UInt8.ofNat (X % 256).toNat).toNat : Nat) : Int) = X % 256 := by
  rw [UInt8.toNat_ofNat']
  omega

def stepX (X : Int) : Int := IntKind.u64.wrap (IntKind.u64.wrap (X * 2862933555777941757) + 3037000493)
def xst (X : Int) : Nat → Int
  | 0 => X
  | j + 1 => if j % 8 = 0 then stepX (xst X j) else xst X j
def byt (X : Int) : UInt8 := UInt8.ofNat (X / 1099511627776 % 256).toNat
def xx0 (seed : Int) : Int := IntKind.u64.wrap (IntKind.u64.wrap (IntKind.u64.wrap seed * 2862933555777941757) + 3037000493)
/-- What Made makes. -/
def madeL (seed : Int) (n : Nat) : List UInt8 := (List.range n).map fun j => byt (xst (xx0 seed) (j + 1))
theorem madeL_len (seed : Int) (n : Nat) : (madeL seed n).length = n := by simp [madeL]
theorem madeL_snoc (seed : Int) (n : Nat) : madeL seed (n + 1) = madeL seed n ++ [byt (xst (xx0 seed) (n + 1))] := by simp [madeL, List.range_succ]

theorem set_take (l : List UInt8) (j : Nat) (b : UInt8) (h : j < l.length) : (l.set j b).take (j + 1) = l.take j ++ [b] := by
  rw [List.take_succ_eq_append_getElem (by simpa using h), List.take_set_of_le (Nat.le_refl _)]
  simp

set_option maxRecDepth 100000 in
set_option maxHeartbeats 2000000 in
theorem made_fun (seed : Int) (n : Nat) (w : World) (hn : n ≤ 1000) :
    Calls Try.prog 37 #[.int .i64 seed, .int .i64 (n : Int)] w fun e w' => ∃ g, e = .returned (.slice (some ⟨g, 0, none⟩) n n) ∧ w.heap.size ≤ g ∧ Row w' g (madeL seed n) ∧ Below w.heap.size w w' := by
  obtain ⟨i0, hi, hz0, hz1, hz2⟩ := info_parts info5
  go_enter Try.func37, Try.ntmps37
  go_wp2_with (at_make; refine wpList_make_full _ rfl (.tmp 8) (.tmp 8) 22 rfl w.heap.size 5 i0 (.int .u8 0) 1 Try.underlying22 hi hz0 hz1 .i64 .i64 _ _ n rfl rfl (by omega) (by omega) (by rw [hz2]; omega) (by unfold maxLen; omega) (Nat.le_refl _) ?_; intro w1 hown hgr)
  have hrow := row_made hown
  have hb1 : Below w.heap.size w w1 := (Below.refl _ _).grown hgr (Nat.le_refl _) (fun k hk => by cases hk)
  clear hown hgr
  obtain ⟨g, hge⟩ : ∃ g, g = w.heap.size := ⟨_, rfl⟩
  rw [← hge] at hrow
  rw [← hge]
  replace hge := hid hge
  go_loopw [6, 7] (fun xv i wr => ∃ (j : Nat) (l : List UInt8), j ≤ n ∧ i = .int .i64 j ∧ xv = .int .u64 (xst (xx0 seed) j) ∧ l.length = n ∧ l.take j = madeL seed j ∧ Row wr g l ∧ Below w.heap.size w wr) (fun _ i _ => n - (intOf i).toNat)
  case atStart => exact ⟨0, List.replicate n 0, Nat.zero_le _, rfl, rfl, by simp, rfl, hrow, hb1⟩
  case round =>
    obtain ⟨j, l, hj, rfl, rfl, hl, htk, hr, hb⟩ := hrel
    by_cases hlt : j < n
    · obtain ⟨cv, hc⟩ : ∃ cv, wr.cell? ⟨g, j, none⟩ = some (.int .u8 cv) := ⟨_, hr.cell j (by omega)⟩
      have hf := hr.free j
      have hend : ∀ Y : Int, Row (wr.setCell ⟨g, j, none⟩ (.int .u8 (Y / 1099511627776 % 256))) g (l.set j (byt Y)) := fun Y => by
        have := hr.set j (byt Y)
        have e : B (byt Y) = .int .u8 (Y / 1099511627776 % 256) := by
          unfold B byt
          rw [u8_int]
        rwa [e] at this
      have hset : ∀ Y : Int, Y = xst (xx0 seed) (j + 1) → (l.set j (byt Y)).take (j + 1) = madeL seed (j + 1) := fun Y hY => by
        rw [set_take l j _ (by omega), htk, madeL_snoc, hY]
      obtain ⟨X, hX⟩ : ∃ X, X = xst (xx0 seed) j := ⟨_, rfl⟩
      rw [← hX]
      replace hX := hid hX
      replace hend := hid hend
      replace hset := hid hset
      replace htk := hid htk
      have hl' := hid hl
      clear hl
      by_cases h8 : (j : Int) % 8 = 0
      · have e8 : ((j : Int) % 8 == 0) = true := by rw [h8]; rfl
        have hst : stepX X = xst (xx0 seed) (j + 1) := by
          show _ = if j % 8 = 0 then stepX (xst (xx0 seed) j) else _
          rw [if_pos (by omega), hX.out]
        unfold stepX at hst
        replace hst := hid hst
        go_wp2
        go_roundw
        case rel => exact ⟨j + 1, _, by omega, by go_num, by rw [hst.out], by simp [hl'.out], hset.out _ hst.out, hend.out _, hb.setCell (p := ⟨g, j, none⟩) (Nat.le_of_eq hge.out.symm) _⟩
        case measure => simp [intOf]; omega
      · have e8 : ((j : Int) % 8 == 0) = false := beq_eq_false_iff_ne.2 h8
        have hst : X = xst (xx0 seed) (j + 1) := by
          show _ = if j % 8 = 0 then _ else xst (xx0 seed) j
          rw [if_neg (by omega), hX.out]
        replace hst := hid hst
        go_wp2
        go_roundw
        case rel => exact ⟨j + 1, _, by omega, by go_num, by rw [hst.out], by simp [hl'.out], hset.out _ hst.out, hend.out _, hb.setCell (p := ⟨g, j, none⟩) (Nat.le_of_eq hge.out.symm) _⟩
        case measure => simp [intOf]; omega
    · obtain rfl : j = n := by omega
      rw [List.take_of_length_le (by omega)] at htk
      subst htk
      replace hl := hid hl
      go_wp2
      go_ret
      exact ⟨g, rfl, Nat.le_of_eq hge.out.symm, hr, hb⟩
theorem pickk_any (x : Int) (n : Nat) (w : World) (hn : 0 < n) (hn2 : n ≤ 4611686018427387904) :
    Calls Try.prog 35 #[.int .i64 x, .int .i64 n] w fun e w' => (∃ p : Nat, p < n ∧ e = .returned (.int .i64 p)) ∧ w' = w := by
  go_enter Try.func35, Try.ntmps35
  go_wp2
  · rename_i hneg
    go_ret
    have h1 := Int.lt_tmod_of_pos x (show (0 : Int) < n by omega)
    refine ⟨⟨(x.tmod n + n).toNat, by omega, ret_int ?_⟩, rfl⟩
    simp [wrap64]
    omega
  · rename_i hpos
    go_ret
    have h1 := Int.tmod_lt_of_pos x (show (0 : Int) < n by omega)
    exact ⟨⟨(x.tmod n).toNat, by omega, ret_int (by simp; omega)⟩, rfl⟩


theorem Dsk.Inv.armD {d : Dsk} (h : d.Inv) {n : Nat} (hn : n ≤ 9223372036854775807) : (d.armD n).Inv := by
  unfold Dsk.armD
  rw [if_neg (by omega)]
  exact ⟨h.okay, h.now, h.short, by simp only; omega, by simp only; omega, h.fail0, h.fail1⟩

theorem arm_sole (base p : Nat) (x : Dx) (d : Dsk) (n : Nat) (w : World) (hs : Sole base w p x d) (hbase : base ≤ w.heap.size) (hn : n ≤ 1000) :
    Calls Try.prog 22 #[.pointer (some ⟨p, 0, none⟩), .int .i64 (n : Int)] w fun e w' => e = .returned (.int .i64 0) ∧ ∃ x', Sole base w' p x' { d with arm := (n : Int) } ∧ Grow w p x x' ∧ Kp (Turn p x) w w' := by
  have hE : Dsk.armE (n : Int) = 0 := by unfold Dsk.armE; rw [if_neg (by omega)]
  have hD : d.armD (n : Int) = { d with arm := (n : Int) } := by unfold Dsk.armD; rw [if_neg (by omega)]
  have hi : (d.armD n).Inv := hs.inv.armD (by omega)
  refine (arm_any p x d (n : Int) w hs.is).mono ?_
  rintro e w' ⟨rfl, h⟩
  rw [hE]
  rw [hD] at h hi
  exact ⟨rfl, h.sole hs hi hbase⟩

/-- A row of records: the call's own, or one with no room. -/
def AllR (w : World) (base : Nat) (v : Value) (n : Nat) (xs : List Value) : Prop :=
  w.ownsRow base 27 3 v n xs ∨ (xs.length = n * 3 ∧ ∃ g, v = .slice (some ⟨g, 0, none⟩) n n ∧ base ≤ g ∧ g < w.heap.size ∧ CAt w (some ⟨g, 0, none⟩) xs)

theorem AllR.form {w : World} {base n : Nat} {v : Value} {xs : List Value} (h : AllR w base v n xs) : ∃ a c, v = .slice a n c ∧ n ≤ c ∧ CAt w a xs ∧ (∀ ad, a = some ad → ∃ g, ad = ⟨g, 0, none⟩ ∧ base ≤ g ∧ g < w.heap.size) ∧ (a = none → c = 0) := by
  rcases h with h | ⟨_, g, rfl, h1, h2, h3⟩
  · have hc := h
    obtain ⟨a, c, e, hnc⟩ := owns_form h
    subst e
    refine ⟨a, c, rfl, hnc, owns_cat hc, fun ad e => ?_, fun e => ?_⟩
    · subst e
      rcases h.2 with ⟨e, _⟩ | ⟨g, cap, cur, e, hb, hg, _⟩
      · cases e
      · simp only [Value.slice.injEq, Option.some.injEq] at e
        exact ⟨g, e.1, hb, (Array.getElem?_eq_some_iff.1 hg).1⟩
    · subst e
      rcases h.2 with ⟨e, _⟩ | ⟨g, cap, cur, e, _⟩
      · simp only [Value.slice.injEq] at e; exact e.2.2
      · cases e
  · exact ⟨_, _, rfl, Nat.le_refl _, h3, fun ad e => ⟨g, by simpa using e.symm, h1, h2⟩, fun e => by cases e⟩

theorem AllR.len {w : World} {base n : Nat} {v : Value} {xs : List Value} (h : AllR w base v n xs) : xs.length = n * 3 := by
  rcases h with h | h
  · exact h.1
  · exact h.1

theorem AllR.kp {S : Nat → Prop} {w w' : World} {base n : Nat} {v : Value} {xs : List Value} (h : AllR w base v n xs) (hk : Kp S w w') (hn : ∀ k, v.ownBlock = some k → ¬ S k) : AllR w' base v n xs := by
  rcases h with h | ⟨h0, g, rfl, h1, h2, h3⟩
  · exact .inl (owns_kp h hk hn)
  · exact .inr ⟨h0, g, rfl, h1, Nat.lt_of_lt_of_le h2 hk.size, h3.kp hk (fun y e => by cases e; exact hn g rfl)⟩

theorem AllR.below {w w' : World} {base n : Nat} {v : Value} {xs : List Value} (h : AllR w base v n xs) (hb : Below w.heap.size w w') : AllR w' base v n xs := h.kp (S := fun _ => False) (Kp.of_below hb) (fun _ _ h => h)

theorem AllR.lt {w : World} {base n : Nat} {v : Value} {xs : List Value} (h : AllR w base v n xs) : ∀ k, v.ownBlock = some k → base ≤ k ∧ k < w.heap.size := by
  obtain ⟨a, c, rfl, _, _, h4, _⟩ := h.form
  intro k hk
  cases a with
  | none => cases hk
  | some ad =>
    obtain ⟨g, rfl, h1, h2⟩ := h4 ad rfl
    cases hk
    exact ⟨h1, h2⟩

/-- The first m of it, with no room. -/
theorem AllR.cut {w : World} {base n m c : Nat} {a : Option Addr} {xs : List Value} (h : AllR w base (.slice a n c) n xs) (hm : m ≤ n) : AllR w base (.slice a m m) m (xs.take (m * 3)) := by
  have hl := h.len
  obtain ⟨a', c', e, hnc, hc, h4, h5⟩ := h.form
  simp only [Value.slice.injEq] at e
  obtain ⟨rfl, _, rfl⟩ := e
  have hlen : (xs.take (m * 3)).length = m * 3 := by rw [List.length_take]; omega
  cases a with
  | none =>
    have := h5 rfl
    have hm0 : m = 0 := by omega
    subst hm0
    simp
    exact .inl (World.ownsRow_nil _ _ _ _)
  | some ad =>
    obtain ⟨g, rfl, h1, h2⟩ := h4 ad rfl
    refine .inr ⟨hlen, g, rfl, h1, h2, fun hne => ?_⟩
    obtain ⟨b, o, e, hcc⟩ := hc (fun e => hne (by rw [e]; simp))
    refine ⟨b, o, e, fun i hi => ?_⟩
    rw [hcc i (by rw [List.length_take] at hi; omega)]
    simp

theorem run_all (w : World) (base ty : Nat) (i : TypeInfo) (z : Value) (hi : Try.prog.info? 27 = some i) (hz : i.zero = some z) (hsize : i.size = 3) (hby : i.bytes = 40) (hzs : z.cells.size = 3)
    (v : Value) (n : Nat) (xs : List Value) (hall : AllR w base v n xs) (ad : Addr) (news : List Value) (hl : news.length = 3) (hat : CAt w (some ad) news) (h1 : ∀ u ∈ news, u.oneCell' = true) (hn : n ≤ 1000000) (hbase : base ≤ w.heap.size) :
    ∃ v' w', (Builtin.append_ #[32, 32] ty #[v, .slice (some ad) 1 1]).run Try.prog w = .ok v' w' ∧ w'.ownsRow base 27 3 v' (n + 1) (xs ++ news) ∧ w.grownBy w' v.ownBlock ∧ (v'.ownBlock = v.ownBlock ∨ v'.ownBlock = some w.heap.size) := by
  rcases hall with h | ⟨h0, g, rfl, hb, hlt, hc⟩
  · obtain ⟨v', w', h2, h3, h4, _, h5⟩ := run_append_own_at (P := Try.prog) w base 32 ty 27 i z 3 40 Try.underlying32 hi hz hsize hby hzs (by omega) v n xs h ad 1 1 news (by omega) hat.src h1 (by unfold maxLen; omega) (by omega) hbase
    exact ⟨v', w', h2, h3, h4, h5⟩
  · have hge := grownCap_ge w (n + 1) n 27
    have hcm : grownCap w (n + 1) n 27 ≤ maxLen := grownCap_le_maxLen w (n + 1) n 27 (by unfold maxLen; omega)
    have hr := run_append_grow (P := Try.prog) w 32 ty 27 i z Try.underlying32 hi hz ⟨g, 0, none⟩ n n xs (by rw [hsize]; exact h0) hc.src ad 1 1 news (by rw [hsize, hl]) hat.src (by omega) (by omega) (growslice_fits (by omega) (by rw [hby]; omega))
    refine ⟨_, _, hr, ⟨by rw [List.length_append]; omega, .inr ⟨w.heap.size, _, _, rfl, hbase, heap_alloc_new w.drew _, hge, hcm, ?_, ?_⟩⟩, ⟨rfl, rfl, rfl, by simp, fun k hk _ => heap_alloc_old w.drew _ k hk⟩, .inr rfl⟩
    · simp only [Array.size_append, List.size_toArray, size_zeroCells, hzs, h0, hl]
      omega
    · simp only [Array.toList_append, List.append_assoc]
      rw [← List.append_assoc, show (n + 1) * 3 = (xs ++ news).length by rw [List.length_append]; omega]
      exact List.take_left

theorem wpList_all (w : World) {ops : Array Oper} {rest : List Oper} {o : Oper} {a : Act} {Q : Exit → Act → World → Prop} (hgd : o.guard = none) (s x : Operand)
    (ho : o.op = .call { callee := .builtin .append, args := #[s, x], argTypes := #[32, 32] })
    (base : Nat) (i : TypeInfo) (z : Value) (hi : Try.prog.info? 27 = some i) (hz : i.zero = some z) (hsize : i.size = 3) (hby : i.bytes = 40) (hzs : z.cells.size = 3)
    (v : Value) (n : Nat) (xs : List Value) (hs : a.eval s = v) (hall : AllR w base v n xs) (ad : Addr) (news : List Value) (hx : a.eval x = .slice (some ad) 1 1) (hl : news.length = 3) (hat : CAt w (some ad) news) (h1 : ∀ u ∈ news, u.oneCell' = true) (hn : n ≤ 1000000) (hbase : base ≤ w.heap.size)
    (h : ∀ v' w', w'.ownsRow base 27 3 v' (n + 1) (xs ++ news) → w.grownBy w' v.ownBlock → (v'.ownBlock = v.ownBlock ∨ v'.ownBlock = some w.heap.size) → wpList Try.prog ops Q rest (a.put o.dst v') w') : wpList Try.prog ops Q (o :: rest) a w := by
  obtain ⟨v', w', hrun, h2, h3, h4⟩ := run_all w base o.type i z hi hz hsize hby hzs v n xs hall ad news hl hat h1 hn hbase
  refine wpList_plain hgd fun K hK => ?_
  unfold Oper.wp
  simp [execOp, ho, resolve, invoke, builtin, hs, hx, hrun, Result.andThen]
  exact hK _ _ (h v' w' h2 h3 h4)

end Go.Proofs.Ytcbgnodmamcmkaa
