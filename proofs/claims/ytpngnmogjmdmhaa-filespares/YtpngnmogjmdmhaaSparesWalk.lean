/- FileSpares' Go text returns true for any number, and turns nothing that was there. -/
import Derived.Test.YtpngnmogjmdmhaaApartWalk
import Derived.Test.YtpngnmogjmdmhaaNumBase
import Derived.Test.YtpngnmogjmdmhaaSyncedWalk
namespace Go.Proofs.Ytpngnmogjmdmhaa
open Go.RowKit

theorem row_own {w : World} {base g : Nat} {l : List UInt8} (h : Row w g l) (hb : base ≤ g) (hl : l.length ≤ 1000000) : Own w base (.slice (some ⟨g, 0, none⟩) l.length l.length) l :=
  ⟨by simp, .inr ⟨g, l.length, _, rfl, hb, h, Nat.le_refl _, by unfold maxLen; omega, by simp, by simp [List.take_of_length_le]⟩⟩

/-- append, where the operation is guarded and wanted. -/
theorem wpList_app1g (w : World) {ops : Array Oper} {rest : List Oper} {o : Oper} {a : Act} {Q : Exit → Act → World → Prop} (hw : Region.wanted o (yielded ops a.tmps) = true) (s x : Operand)
    (ho : o.op = .call { callee := .builtin .append, args := #[s, x], argTypes := #[26, 26] })
    (base : Nat) (v : Value) (l : List UInt8) (hs : a.eval s = v) (hown : Own w base v l) (ad : Addr) (b : UInt8) (c : Nat) (hx : a.eval x = .slice (some ad) 1 c) (hb : w.cell? (ad.add 0) = some (B b)) (hl : l.length ≤ 10000000) (hbase : base ≤ w.heap.size)
    (h : ∀ v' w', Own w' base v' (l ++ [b]) → w.grownBy w' v.ownBlock → wpList Try.prog ops Q rest (a.put o.dst v') w') : wpList Try.prog ops Q (o :: rest) a w := by
  obtain ⟨v', w', hrun, h2, h3, _⟩ := app1_run w base o.type v l hown ad b c hb hl hbase
  refine wpList_step fun K hK => ?_
  rw [if_pos hw]
  unfold Oper.wp
  simp [execOp, ho, resolve, invoke, builtin, hs, hx, hrun, Result.andThen]
  exact hK _ _ (h v' w' h2 h3)

/-- ApartBytes of four slices of one length, each in a block of its own. -/
theorem apart_four (w : World) (base ga gb gc gi ca cb cc n : Nat) (L : List UInt8) (hL : L.length = n) (hbase : base ≤ w.heap.size) (o1 : gi < ga) (o2 : ga < gb) (o3 : gb < gc) (o4 : gc < w.heap.size)
    (ha : Own w base (.slice (some ⟨ga, 0, none⟩) n ca) L) (hb : Own w base (.slice (some ⟨gb, 0, none⟩) n cb) L) (hc : Own w base (.slice (some ⟨gc, 0, none⟩) n cc) L) (hi : Own w base (.slice (some ⟨gi, 0, none⟩) n n) L) (hn : n ≤ 1000000 := by omega) :
    Calls Try.prog 28 #[.slice (some ⟨w.heap.size, 0, none⟩) 4 4] (w.alloc (.cells #[.slice (some ⟨ga, 0, none⟩) n ca, .slice (some ⟨gb, 0, none⟩) n cb, .slice (some ⟨gc, 0, none⟩) n cc, .slice (some ⟨gi, 0, none⟩) n n] 26)) fun e w' =>
      e = .returned (.bool true) ∧ Kp (fun k => k = ga ∨ k = gb ∨ k = gc ∨ k = gi) (w.alloc (.cells #[.slice (some ⟨ga, 0, none⟩) n ca, .slice (some ⟨gb, 0, none⟩) n cb, .slice (some ⟨gc, 0, none⟩) n cc, .slice (some ⟨gi, 0, none⟩) n n] 26)) w' := by
  obtain ⟨wl, hwl⟩ : ∃ wl, wl = w.alloc (.cells #[.slice (some ⟨ga, 0, none⟩) n ca, .slice (some ⟨gb, 0, none⟩) n cb, .slice (some ⟨gc, 0, none⟩) n cc, .slice (some ⟨gi, 0, none⟩) n n] 26) := ⟨_, rfl⟩
  have bl : Below w.heap.size w wl := by rw [hwl]; exact below_lit w _
  have hh : wl.heap[w.heap.size]? = some (.cells #[.slice (some ⟨ga, 0, none⟩) n ca, .slice (some ⟨gb, 0, none⟩) n cb, .slice (some ⟨gc, 0, none⟩) n cc, .slice (some ⟨gi, 0, none⟩) n n] 26 (0, 0)) := by rw [hwl]; exact heap_alloc_new w _
  rw [← hwl]
  clear hwl
  have hlt := (Array.getElem?_eq_some_iff.1 hh).1
  obtain ⟨bk, hbk⟩ : ∃ bk : Nat → Nat, bk = fun j => if j = 0 then ga else if j = 1 then gb else if j = 2 then gc else gi := ⟨_, rfl⟩
  obtain ⟨cf, hcf⟩ : ∃ cf : Nat → Nat, cf = fun j => if j = 0 then ca else if j = 1 then cb else if j = 2 then cc else n := ⟨_, rfl⟩
  have hbl : ∀ j, j < 4 → bk j < w.heap.size := fun j hj => by rw [hbk]; dsimp only; split <;> (try split) <;> (try split) <;> omega
  have hinj : ∀ i j, i < 4 → j < 4 → i ≠ j → bk i ≠ bk j := fun i j h1 h2 h3 => by
    rw [hbk]
    dsimp only
    obtain rfl | rfl | rfl | rfl : i = 0 ∨ i = 1 ∨ i = 2 ∨ i = 3 := by omega
    all_goals
      obtain rfl | rfl | rfl | rfl : j = 0 ∨ j = 1 ∨ j = 2 ∨ j = 3 := by omega
      all_goals simp at h3 ⊢
      all_goals omega
  refine (apart_any w.heap.size 4 4 base (fun j => some ⟨bk j, 0, none⟩) (fun _ => n) cf (fun j => .slice (some ⟨bk j, 0, none⟩) n (cf j)) (fun _ => L) wl (fun _ => rfl) (by omega) (fun _ _ => hn) (Nat.le_trans hbase bl.size) ?_ hlt ?_ (fun _ _ => hL) ?_ ?_).mono ?_
  · intro k hk
    rw [cell_of_row wl w.heap.size k _ 26 (0, 0) hh, hbk, hcf]
    obtain rfl | rfl | rfl | rfl : k = 0 ∨ k = 1 ∨ k = 2 ∨ k = 3 := by omega
    all_goals rfl
  · intro j hj
    rw [hbk, hcf]
    obtain rfl | rfl | rfl | rfl : j = 0 ∨ j = 1 ∨ j = 2 ∨ j = 3 := by omega
    · exact ha.below bl
    · exact hb.below bl
    · exact hc.below bl
    · exact hi.below bl
  · intro i j h1 h2 h3 b e e2
    simp only [Value.ownBlock, Option.some.injEq] at e e2
    exact hinj i j h1 h2 h3 (e.trans e2.symm)
  · intro j hj e
    simp only [Value.ownBlock, Option.some.injEq] at e
    have := hbl j hj
    omega
  · rintro e w' ⟨rfl, hk⟩
    refine ⟨rfl, ⟨hk.os, hk.tape, hk.output, hk.size, fun k h1 h2 => hk.block k h1 (fun ⟨j, hj, e⟩ => h2 ?_)⟩⟩
    simp only [Value.ownBlock, Option.some.injEq] at e
    rw [← e, hbk]
    obtain rfl | rfl | rfl | rfl : j = 0 ∨ j = 1 ∨ j = 2 ∨ j = 3 := by omega
    · exact .inl rfl
    · exact .inr (.inl rfl)
    · exact .inr (.inr (.inl rfl))
    · exact .inr (.inr (.inr rfl))

def P1 (L : List UInt8) : Dsk := Dsk.new.note ⟨1, true, L, 0⟩
def P2 (L : List UInt8) : Dsk := (P1 L).sync
def P3 (L : List UInt8) : Dsk := (P2 L).note ⟨1, true, [1], 0⟩
theorem p1_calm (L : List UInt8) : Calm (P1 L) := Calm.new.note _
theorem p2_calm (L : List UInt8) : Calm (P2 L) := (p1_calm L).sync
theorem p3_calm (L : List UInt8) : Calm (P3 L) := (p2_calm L).note _
theorem p1_cur (L : List UInt8) : (P1 L).cur 1 = L := rfl
theorem p3_cur (L : List UInt8) : (P3 L).cur 1 = L ++ [1] := rfl

set_option maxRecDepth 100000 in
set_option maxHeartbeats 8000000 in
theorem spares_any (seed : Int) (w : World) : Calls Try.prog 8 #[.int .i64 seed] w fun e w' => e = .returned (.bool true) ∧ Below w.heap.size w w' := by
  obtain ⟨L, hL⟩ : ∃ L, L = madeL seed 40 := ⟨_, rfl⟩
  have hLl : L.length = 40 := by rw [hL, madeL_len]
  have hmade : ∀ w : World, Calls Try.prog 27 #[.int .i64 seed, .int .i64 40] w fun e w' => ∃ g, e = .returned (.slice (some ⟨g, 0, none⟩) 40 40) ∧ w.heap.size ≤ g ∧ Row w' g L ∧ Below w.heap.size w w' := fun w => by rw [hL]; exact made_fun seed 40 w (by omega)
  have a1 := app_calm Calm.new 1 (by omega) L (by rw [hLl]; decide)
  have a3 := app_calm (p2_calm L) 1 (by omega) [1] (by show L.length + 1 ≤ _; rw [hLl]; decide)
  clear hL
  replace hLl := hid hLl
  go_enter Try.func8, Try.ntmps8
  go_wp2_with fail
  refine (new_any w).mono ?_
  rintro e w1 ⟨p, x1, rfl, h1, ht1, hr1, hb1⟩
  have s1 : Sole w.heap.size w1 p x1 Dsk.new := ⟨h1, ht1, fun k e => absurd e (hr1 k), Dsk.new_inv⟩
  clear h1 ht1 hr1
  go_wp2_with fail
  refine (hmade w1).mono ?_
  rintro e w2 ⟨gi, rfl, hgi, hri, hb2⟩
  have s2 := s1.below hb2
  have b2 := bnext hb1 hb2
  have oi : Own w2 w1.heap.size (.slice (some ⟨gi, 0, none⟩) 40 40) L := by have := row_own hri hgi (by rw [hLl.out]; omega); rwa [hLl.out] at this
  have ti : ¬ Turn p x1 gi ∧ ¬ Reads x1 gi := ⟨fun e => by have := s1.is.1.turn_lt _ e; omega, fun e => by have := s1.is.1.reads_lt _ e; omega⟩
  have zi := (oi.lt gi rfl).2
  go_wp2_with fail
  refine (append_sole w.heap.size p x1 Dsk.new (P1 L) 1 0 (some ⟨gi, 0, none⟩) 40 40 L _ s2 b2.size (by decide) hLl.out (by omega) hri.at (fun ad e => by cases e; exact ti.1) a1.1 a1.2).mono ?_
  rintro e w3 ⟨rfl, x3, s3, g3, k3⟩
  have b3 := b2.trans (k3.below s2.turn b2.size)
  have oi3 := oi.kp k3 (fun k e => by cases e; exact ti.1)
  have ti3 := off_grow g3 zi ti
  go_wp2_with fail
  refine (read_sole w.heap.size p x3 (P1 L) 1 0 L 40 _ s3 rfl rfl hLl.out).mono ?_
  rintro e w4 ⟨aa, ca, rfl, oa, hb4⟩
  have s4 := s3.below hb4
  have b4 := bnext b3 hb4
  have oi4 := oi3.below hb4
  obtain ⟨ga, ca', ea, _, _⟩ := oa.form_pos (fun e => by have := hLl.out; rw [e] at this; simp at this)
  rw [hLl.out] at ea
  obtain ⟨rfl, rfl⟩ : aa = some ⟨ga, 0, none⟩ ∧ ca = ca' := by simp only [Value.slice.injEq] at ea; exact ⟨ea.1, ea.2.2⟩
  clear ea
  have za := oa.lt ga rfl
  have oaT : ¬ Turn p x3 ga ∧ ¬ Reads x3 ga := ⟨fun e => by have := s3.is.1.turn_lt _ e; omega, fun e => by have := s3.is.1.reads_lt _ e; omega⟩
  go_wp2_with fail
  refine (sync_sole w.heap.size p x3 (P1 L) (P2 L) 0 _ s4 b4.size (by show 1 ≤ _; omega) (p1_calm L).errs (p1_calm L).syncD).mono ?_
  rintro e w5 ⟨rfl, x5, s5, g5, k5⟩
  have b5 := b4.trans (k5.below s4.turn b4.size)
  have zi4 := Nat.lt_of_lt_of_le zi (Nat.le_trans k3.size hb4.size)
  have oi5 := oi4.kp k5 (fun k e => by cases e; exact ti3.1)
  have ti5 := off_grow g5 zi4 ti3
  have oa5 := oa.kp k5 (fun k e => by cases e; exact oaT.1)
  have oaT5 := off_grow g5 za.2 oaT
  go_wp2_with fail
  refine (read_sole w.heap.size p x5 (P2 L) 1 0 L 40 _ s5 rfl rfl hLl.out).mono ?_
  rintro e w6 ⟨ab, cb, rfl, ob, hb6⟩
  obtain ⟨gb, cb', eb, _, _⟩ := ob.form_pos (fun e => by have := hLl.out; rw [e] at this; simp at this)
  rw [hLl.out] at eb
  obtain ⟨rfl, rfl⟩ : ab = some ⟨gb, 0, none⟩ ∧ cb = cb' := by simp only [Value.slice.injEq] at eb; exact ⟨eb.1, eb.2.2⟩
  clear eb
  have zb := ob.lt gb rfl
  have s6 := s5.below hb6
  have b6 := bnext b5 hb6
  have obT : ¬ Turn p x5 gb ∧ ¬ Reads x5 gb := ⟨fun e => by have := s5.is.1.turn_lt _ e; omega, fun e => by have := s5.is.1.reads_lt _ e; omega⟩
  go_wp2_with fail
  refine (durable_sole w.heap.size p x5 (P2 L) 1 0 L 40 _ s6 rfl rfl hLl.out).mono ?_
  rintro e w7 ⟨ac, cc, rfl, oc, hb7⟩
  obtain ⟨gc, cc', ec, _, _⟩ := oc.form_pos (fun e => by have := hLl.out; rw [e] at this; simp at this)
  rw [hLl.out] at ec
  obtain ⟨rfl, rfl⟩ : ac = some ⟨gc, 0, none⟩ ∧ cc = cc' := by simp only [Value.slice.injEq] at ec; exact ⟨ec.1, ec.2.2⟩
  clear ec
  have zc := oc.lt gc rfl
  have s7 := s6.below hb7
  have b7 := bnext b6 hb7
  have ocT : ¬ Turn p x5 gc ∧ ¬ Reads x5 gc := ⟨fun e => by have := s6.is.1.turn_lt _ e; omega, fun e => by have := s6.is.1.reads_lt _ e; omega⟩
  have oa7 := ((oa5.below hb6).below hb7).le b3.size
  have ob7 := (ob.below hb7).le b5.size
  have oc7 := oc.le b6.size
  have oi7 := ((oi5.below hb6).below hb7).le (base' := w.heap.size) hb1.size
  have zz3 := k3.size
  have zz4 := hb4.size
  have zz5 := k5.size
  have zz6 := hb6.size
  have zw : w.heap.size ≤ gi := Nat.le_trans hb1.size hgi
  have o1 : gi < ga := by omega
  have o2 : ga < gb := by omega
  have o3 : gb < gc := by omega
  clear oa ob oc oi oi3 oi4 oi5 oa5 s1 s2 s3 s4 s5 s6 hri
  go_wp2_with fail
  refine (same_any _ _ 40 40 ca cb L L _ hLl.out hLl.out oa7.at ob7.at rfl).mono ?_
  rintro e w8 ⟨rfl, rfl⟩
  go_wp2_with fail
  refine (same_any _ _ 40 40 cb cc L L _ hLl.out hLl.out ob7.at oc7.at rfl).mono ?_
  rintro e w9 ⟨rfl, rfl⟩
  have bl := below_lit w9 (.cells #[.slice (some ⟨ga, 0, none⟩) 40 ca, .slice (some ⟨gb, 0, none⟩) 40 cb, .slice (some ⟨gc, 0, none⟩) 40 cc, .slice (some ⟨gi, 0, none⟩) 40 40] 26)
  have hap := apart_four w9 w.heap.size ga gb gc gi ca cb cc 40 L hLl.out b7.size o1 o2 o3 zc.2 oa7 ob7 oc7 oi7
  have s9 := s7.below bl
  have b9 := bnext b7 bl
  clear oa7 ob7 oc7 oi7
  go_wp2_with fail
  refine hap.mono ?_
  rintro e w10 ⟨rfl, k10⟩
  have hoffs : ∀ k, (k = ga ∨ k = gb ∨ k = gc ∨ k = gi) → ¬ Turn p x5 k ∧ ¬ Reads x5 k := fun k h => by
    rcases h with rfl | rfl | rfl | rfl
    · exact oaT5
    · exact obT
    · exact ocT
    · exact ti5
  have s10 := s9.besides k10 hoffs
  have b10 := b9.trans (k10.below (fun k h => by rcases h with rfl | rfl | rfl | rfl <;> omega) b9.size)
  clear hap s9 s7 k10
  have bl2 := below_lit w10 (.cells #[.int .u8 1] 5)
  have sl := s10.below bl2
  have bb := bnext b10 bl2
  go_wp2_with fail
  refine (append_sole w.heap.size p x5 (P2 L) (P3 L) 1 0 _ 1 1 [1] _ sl bb.size (by show 0 ≤ _; omega) rfl (by omega) (at_lit w10 [1] _ rfl) (fun ad e ht => by cases e; have := s10.is.1.turn_lt _ ht; simp at this) a3.1 a3.2).mono ?_
  rintro e w11 ⟨rfl, x11, s11, g11, k11⟩
  have b11 := bb.trans (k11.below sl.turn bb.size)
  clear sl s10 bb bl2
  go_wp2_with fail
  refine (read_sole w.heap.size p x11 (P3 L) 1 0 (L ++ [1]) 41 _ s11 rfl rfl (by rw [List.length_append, hLl.out]; rfl)).mono ?_
  rintro e w12 ⟨ad, cd, rfl, od, hb12⟩
  have b12 := bnext b11 hb12
  go_wp2_with fail
  refine (hmade w12).mono ?_
  rintro e w13 ⟨gj, rfl, hgj, hrj, hb13⟩
  have oj : Own w13 w12.heap.size (.slice (some ⟨gj, 0, none⟩) 40 40) L := by have := row_own hrj hgj (by rw [hLl.out]; omega); rwa [hLl.out] at this
  have b13 := bnext b12 hb13
  have bl3 := below_lit w13 (.cells #[.int .u8 1] 5)
  have oj3 := oj.below bl3
  have od3 := (od.at.below hb13).below bl3
  have z13 := hb13.size
  have z14 := bl3.size
  have odlt := od3
  have b14 := bnext b13 bl3
  have hl1 : (w13.alloc (.cells #[.int .u8 1] 5)).cell? ((⟨w13.heap.size, 0, none⟩ : Addr).add 0) = some (B 1) := by
    rw [Addr.add_mid]
    have : (w13.alloc (.cells #[.int .u8 1] 5)).heap[w13.heap.size]? = some (.cells #[.int .u8 1] 5 (0, 0)) := heap_alloc_new w13 _
    unfold World.cell?
    simp only [this]
    rfl
  have odb : ∀ a, ad = some a → a.block < w12.heap.size := fun a e => by
    obtain ⟨gd, cd', ed, _, _⟩ := od.form_pos (by simp)
    simp only [Value.slice.injEq] at ed
    rw [ed.1] at e
    cases e
    exact (od.lt gd (by rw [ed.1]; rfl)).2
  go_wp2_with (at_builtin; refine wpList_app1g _ rfl (.tmp 79) (.tmp 80) rfl w12.heap.size _ L rfl oj3 _ 1 1 rfl hl1 (by rw [hLl.out]; omega) (by omega) ?_; intro v6 w6 ho6 hg6)
  have hl41 : (L ++ [1]).length = 41 := by rw [List.length_append, hLl.out]; rfl
  obtain ⟨g6, c6, hv6, _, hat6⟩ := ho6.form_pos (by simp)
  rw [hl41] at hv6
  have hg7 : World.grownBy (w13.alloc (.cells #[.int .u8 1] 5)) w6 (some gj) := hg6
  have od6 : At w6 ad (L ++ [1]) := od3.kp (Kp.grown hg7) (fun a e hn => by
    have h1 := odb a e
    simp only [Option.some.injEq] at hn
    omega)
  have b6 := b14.trans ((Kp.grown hg7).below (fun k e => by simp only [Option.some.injEq] at e; have := b12.size; omega) b14.size)
  rw [hv6]
  refine (same_any ad _ 41 41 cd c6 (L ++ [1]) (L ++ [1]) _ hl41 hl41 od6 hat6 rfl).mono ?_
  rintro e w15 ⟨rfl, rfl⟩
  replace hl41 := hid hl41
  clear od3 odlt od6 hat6 ho6 hg6 hg7 hl1
  subst hv6
  go_wp2_with fail
  refine (awake_any _).mono ?_
  rintro e w16 ⟨rfl, hb16⟩
  go_wp2
  go_ret
  exact ⟨rfl, bnext b6 hb16⟩
end Go.Proofs.Ytpngnmogjmdmhaa
