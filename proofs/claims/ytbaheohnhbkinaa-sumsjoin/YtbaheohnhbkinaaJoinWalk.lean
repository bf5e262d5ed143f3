/- SumsJoin's Go text returns true for any three slices of bytes, and turns nothing that was there. -/
import Derived.Test.YtbaheohnhbkinaaNumbersWalk
import Derived.Laws.OwnMore
import Derived.Deep.RegionLaw
import Derived.WalkSmall
namespace Go.Proofs.Ytbaheohnhbkinaa
open Go.RowKit

theorem min_run (n1 n2 n3 : Nat) (w : World) : (Builtin.min_ #[3, 3, 3, 3] 3 #[.int .i64 n1, .int .i64 n2, .int .i64 n3, .int .i64 20000]).run Try.prog w = .ok (.int .i64 ((min (min (min n1 n2) n3) 20000 : Nat) : Int)) w := by
  have e : (if (20000 : Int) < (if (n3 : Int) < (if (n2 : Int) < n1 then (n2 : Int) else n1) then (n3 : Int) else (if (n2 : Int) < n1 then (n2 : Int) else n1)) then 20000 else (if (n3 : Int) < (if (n2 : Int) < n1 then (n2 : Int) else n1) then (n3 : Int) else (if (n2 : Int) < n1 then (n2 : Int) else n1))) = ((min (min (min n1 n2) n3) 20000 : Nat) : Int) := by
    repeat' split
    all_goals omega
  rw [← e]
  simp [Builtin.min_, Builtin.min2]

/-- 'append(v, x...)' as one step of a region that draws its order. -/
theorem step_app {ops : Array Oper} {o : Oper} {a : Act} {w : World} {K : Act → World → Prop} {Q : Exit → Act → World → Prop} {E : Prop} (hg : o.guard = none) (s x : Operand)
    (ho : o.op = .call { callee := .builtin .append, args := #[s, x], argTypes := #[25, 25] }) (hty : o.type = 25)
    (base : Nat) (v : Value) (l src : List UInt8) (hs : a.eval s = v) (hown : Own w base v l) (ad : Option Addr) (m c : Nat) (hx : a.eval x = .slice ad m c) (hm : src.length = m) (hat : At w ad src)
    (hb : l.length + m ≤ 140737489000000) (hbase : base ≤ w.heap.size)
    (hK : ∀ v' w', Own w' base v' (l ++ src) → Below base w w' → K (a.put o.dst v') w') :
    if Region.wanted o (yielded ops a.tmps) = true then Oper.wp Try.prog o a w K Q else E := by
  have hw : Region.wanted o (yielded ops a.tmps) = true := by simp [Region.wanted, hg]
  rw [if_pos hw]
  obtain ⟨v', w', hrun, h1, h2⟩ := app_slice w base v l src hown ad m c hm hat hb hbase
  unfold Oper.wp
  simp [execOp, ho, hty, resolve, invoke, builtin, hs, hx, hrun, Result.andThen]
  exact hK v' w' h1 h2

theorem xor_lit (x y z : UInt8) : #[Value.int .u8 (bits .xor .u8 (bits .xor .u8 (x.toNat : Int) (y.toNat : Int)) (z.toNat : Int))] = ([x ^^^ y ^^^ z].map B).toArray := by
  have hx := x.toNat_lt
  have hy := y.toNat_lt
  have h1 := u8_xor_nat x.toNat y.toNat hx hy
  have h2 := u8_xor_nat (x.toNat ^^^ y.toNat) z.toNat (Nat.xor_lt_two_pow (n := 8) hx hy) z.toNat_lt
  rw [h1, h2]
  simp [B, UInt8.toNat_xor]

theorem alloc_le {m : Nat} (w : World) (o : Obj) (h : m ≤ w.heap.size) : m ≤ (w.alloc o).heap.size := by simp; omega

theorem crc_xor (A B C : List UInt8) : bits .xor .u32 (bits .xor .u32 (crcOf A : Int) (crcOf B : Int)) (crcOf C : Int) = ((crcOf A ^^^ crcOf B ^^^ crcOf C : Nat) : Int) := by
  have hA : crcOf A < 4294967296 := moreOf_lt 0 A
  have hB : crcOf B < 4294967296 := moreOf_lt 0 B
  have hC : crcOf C < 4294967296 := moreOf_lt 0 C
  rw [u32_xor_nat _ _ hA hB, u32_xor_nat _ _ (xor_lt32 hA hB) hC]

/-- The three lists held against each other, bit by bit. -/
def held (la lb lc : List UInt8) : List UInt8 := List.zipWith (fun x y => x ^^^ y) (List.zipWith (fun x y => x ^^^ y) la lb) lc

theorem held_len (la lb lc : List UInt8) (n : Nat) (h1 : la.length = n) (h2 : lb.length = n) (h3 : lc.length = n) : (held la lb lc).length = n := by
  simp [held, h1, h2, h3]

theorem held_step (la lb lc : List UInt8) (n k : Nat) (h1 : la.length = n) (h2 : lb.length = n) (h3 : lc.length = n) (h : k < n) :
    (held la lb lc).take (k + 1) = (held la lb lc).take k ++ [la[k] ^^^ lb[k] ^^^ lc[k]] := by
  rw [take_snoc _ k (by rw [held_len la lb lc n h1 h2 h3]; exact h)]
  simp [held]

theorem At.take {w : World} {a : Option Addr} {l : List UInt8} (h : At w a l) (n : Nat) : At w a (l.take n) := by
  refine At.head (z := l.drop n) ?_
  rw [List.take_append_drop]
  exact h

theorem At.cell {w : World} {a : Option Addr} {l : List UInt8} (h : At w a l) (k : Nat) (hk : k < l.length) : ∃ b o, a = some ⟨b, o, none⟩ ∧ w.cell? ⟨b, o + k, none⟩ = some (.int .u8 (l[k].toNat : Int)) := by
  obtain ⟨b, o, e, hc⟩ := h (by intro e; subst e; simp at hk)
  exact ⟨b, o, e, hc k hk⟩

set_option maxRecDepth 100000 in
set_option maxHeartbeats 2000000 in
theorem join_any (a b c : Option Addr) (n1 n2 n3 c1 c2 c3 n : Nat) (la lb lc : List UInt8) (w : World) (h1 : la.length = n1) (h2 : lb.length = n2) (h3 : lc.length = n3) (hc1 : n1 ≤ c1) (hc2 : n2 ≤ c2) (hc3 : n3 ≤ c3)
    (hn1 : n1 ≤ 140737488351232) (hn2 : n2 ≤ 140737488351232) (hn3 : n3 ≤ 140737488351232) (hn : n = min (min (min n1 n2) n3) 20000) (ha : At w a la) (hb : At w b lb) (hc : At w c lc) :
    Calls Try.prog 6 #[.slice a n1 c1, .slice b n2 c2, .slice c n3 c3] w fun e w' => e = .returned (.bool true) ∧ Below w.heap.size w w' := by
  have hmin := min_run n1 n2 n3 w
  rw [← hn] at hmin
  have m1 : n ≤ n1 := by omega
  have m2 : n ≤ n2 := by omega
  have m3 : n ≤ n3 := by omega
  have m4 : n ≤ 20000 := by omega
  clear hn
  replace ha := ha.take n
  replace hb := hb.take n
  replace hc := hc.take n
  have l1 : (la.take n).length = n := by simp; omega
  have l2 : (lb.take n).length = n := by simp; omega
  have l3 : (lc.take n).length = n := by simp; omega
  clear h1 h2 h3
  generalize la.take n = A at *
  generalize lb.take n = B at *
  generalize lc.take n = C at *
  go_enter Try.func6, Try.ntmps6
  go_wp2_with fail
  go_quiet (fail)
  have hbel := below_drewN (Below.refl w.heap.size w) nq
  replace ha := ha.below hbel
  replace hb := hb.below hbel
  replace hc := hc.below hbel
  generalize w.drewN nq = w0 at *
  clear hmin
  go_wp2_with fail
  refine (copy_any a c1 n A _ l1 (by omega) ha).mono ?_
  rintro e w1 ⟨v1, rfl, ho1, hb1⟩
  go_wp2_with (at_builtin; refine wpList_app _ rfl (.tmp 28) (.tmp 29) rfl rfl w0.heap.size v1 A B rfl ho1 b n c2 rfl l2 (hb.below hb1) (by omega) hb1.size ?_; intro v2 w2 ho2 hb2; obtain ⟨g2, k2, hv2, hk2, hat2⟩ := ho2.form; have l4 : (A ++ B).length = 2 * n := (by simp; omega); rw [l4] at hv2; rw [hv2]; replace hbel := bnext hbel (hb1.trans hb2); replace ha := ha.below (hb1.trans hb2); replace hb := hb.below (hb1.trans hb2); replace hc := hc.below (hb1.trans hb2); clear ho1 hb1 ho2 hb2)
  clear hv2 hk2
  refine (crc_any n c1 a A _ l1 (by omega) ha).mono ?_
  rintro e w3 ⟨rfl, hb3⟩
  replace ha := ha.below hb3
  replace hb := hb.below hb3
  replace hc := hc.below hb3
  replace hat2 := hat2.below hb3
  replace hbel := bnext hbel hb3
  clear hb3
  go_wp2_with fail
  refine (more_of (crcOf (A ++ B)) (crcOf A) n c2 b B _ (more_crc A B) (moreOf_lt _ _) l2 (by omega) hb).mono ?_
  rintro e w4 ⟨rfl, hb4⟩
  replace ha := ha.below hb4
  replace hb := hb.below hb4
  replace hc := hc.below hb4
  replace hat2 := hat2.below hb4
  replace hbel := bnext hbel hb4
  clear hb4
  go_wp2_with fail
  refine (crc_any (2 * n) k2 g2 (A ++ B) _ l4 (by omega) hat2).mono ?_
  rintro e w5 ⟨rfl, hb5⟩
  replace ha := ha.below hb5
  replace hb := hb.below hb5
  replace hc := hc.below hb5
  replace hbel := bnext hbel hb5
  clear hb5 hat2
  go_wp2_with fail
  refine (more_of (crcOf A) 0 n c1 a A _ rfl (by omega) l1 (by omega) ha).mono ?_
  rintro e w6 ⟨rfl, hb6⟩
  replace ha := ha.below hb6
  replace hb := hb.below hb6
  replace hc := hc.below hb6
  replace hbel := bnext hbel hb6
  clear hb6
  go_wp2_with fail
  refine (crc_any n c1 a A _ l1 (by omega) ha).mono ?_
  rintro e w7 ⟨rfl, hb7⟩
  replace ha := ha.below hb7
  replace hb := hb.below hb7
  replace hc := hc.below hb7
  replace hbel := bnext hbel hb7
  clear hb7
  go_wp2
  go_loopw [9, 10] (fun v i wr => ∃ k : Nat, k ≤ n ∧ i = .int .i64 k ∧ Own wr w7.heap.size v ((held A B C).take k) ∧ Below w7.heap.size w7 wr) (fun _ i _ => n - (intOf i).toNat)
  case atStart => exact ⟨0, Nat.zero_le _, rfl, Own.nil _ _, Below.refl _ _⟩
  case round =>
    obtain ⟨k, hk, rfl, ho, hb7⟩ := hrel
    replace ha := ha.below hb7
    replace hb := hb.below hb7
    replace hc := hc.below hb7
    have hzz := hb7.size
    by_cases hlt : k < n
    · obtain ⟨ba, oa, rfl, xa⟩ := ha.cell k (by omega)
      obtain ⟨bb, ob, rfl, xb⟩ := hb.cell k (by omega)
      obtain ⟨bc, oc, rfl, xc⟩ := hc.cell k (by omega)
      have hst := held_step A B C n k l1 l2 l3 hlt
      obtain ⟨x, hx⟩ : ∃ x, x = A[k] := ⟨_, rfl⟩
      obtain ⟨y, hy⟩ : ∃ y, y = B[k] := ⟨_, rfl⟩
      obtain ⟨z, hz⟩ : ∃ z, z = C[k] := ⟨_, rfl⟩
      rw [← hx] at xa hst
      rw [← hy] at xb hst
      rw [← hz] at xc hst
      replace hst := hid hst
      clear hx hy hz ha hb hc
      have hT : ((held A B C).take k).length + 1 ≤ 140737489000000 := by rw [List.length_take]; omega
      replace hT := hid hT
      go_wp2
      go_region_law (refine step_app rfl (.tmp 50) (.tmp 65) rfl rfl w7.heap.size u9 ((held A B C).take k) [x ^^^ y ^^^ z] rfl (ho.alloc _) (some ⟨wr.heap.size, 0, none⟩) 1 1 rfl rfl (at_lit wr.drew [x ^^^ y ^^^ z] _ (xor_lit x y z)) hT.out (alloc_le _ _ hzz) ?_; intro v1 w1 ho1 hb1)
      all_goals go_wp2
      all_goals exact ⟨⟨k + 1, by omega, by go_num, by rw [hst.out]; exact ho1, (hb7.trans ((Below.refl _ wr).alloc hzz _).drew).trans hb1⟩, by simp [intOf]; omega⟩
    · have hkn : k = n := by omega
      subst hkn
      have hcr := crc_three A B C (by omega) (by omega)
      rw [show List.zipWith (fun x y => x ^^^ y) (List.zipWith (fun x y => x ^^^ y) A B) C = held A B C from rfl] at hcr
      have lx := held_len A B C k l1 l2 l3
      rw [List.take_of_length_le (by omega)] at ho
      obtain ⟨gx, kx, rfl, _, hx⟩ := ho.form
      rw [lx]
      clear ho
      replace hbel := bnext hbel hb7
      clear hb7
      go_wp2_with fail
      refine (crc_any k kx gx (held A B C) _ lx (by omega) hx).mono ?_
      rintro e w8 ⟨rfl, hb8⟩
      replace ha := ha.below hb8
      replace hb := hb.below hb8
      replace hc := hc.below hb8
      replace hbel := bnext hbel hb8
      clear hb8
      go_wp2_with fail
      refine (crc_any k c1 a A _ l1 (by omega) ha).mono ?_
      rintro e w9 ⟨rfl, hb9⟩
      replace hb := hb.below hb9
      replace hc := hc.below hb9
      replace hbel := bnext hbel hb9
      clear hb9 ha
      go_wp2_with fail
      refine (crc_any k c2 b B _ l2 (by omega) hb).mono ?_
      rintro e w10 ⟨rfl, hb10⟩
      replace hc := hc.below hb10
      replace hbel := bnext hbel hb10
      clear hb10 hb
      go_wp2_with fail
      refine (crc_any k c3 c C _ l3 (by omega) hc).mono ?_
      rintro e w11 ⟨rfl, hb11⟩
      replace hbel := bnext hbel hb11
      clear hb11 hc
      have hxor := crc_xor A B C
      rw [← hcr] at hxor
      go_wp2_with (go_at_call 12; refine (awake_any _).mono ?_; rintro e w12 ⟨rfl, hb12⟩)
      go_ret
      exact ⟨rfl, bnext hbel hb12⟩
end Go.Proofs.Ytbaheohnhbkinaa
