/- The document's Records. -/
import Derived.Test.YtcbgnodmamcmkaaRef4
import Derived.Test.YtcbgnodmamcmkaaAwake
namespace Go.Proofs.Ytcbgnodmamcmkaa
open Go.RowKit

theorem rec_off {w : World} {base base' e e' size size' m m' : Nat} {v v' : Value} {xs xs' : List Value} (h : w.ownsRow base e size v m xs) (hr : w.ownsRow base' e' size' v' m' xs') (he : e ≠ e') :
    ∀ k, v.ownBlock = some k → v'.ownBlock ≠ some k := by
  intro k hk ev
  rcases h.2 with ⟨hv, _⟩ | ⟨g, cap, cur, hv, _, hg, _⟩
  · rw [hv] at hk; cases hk
  · rcases hr.2 with ⟨hv', _⟩ | ⟨g', cap', cur', hv', _, hg', _⟩
    · rw [hv'] at ev; cases ev
    · rw [hv] at hk
      rw [hv'] at ev
      have e1 : g = k := Option.some.inj hk
      have e2 : g' = k := Option.some.inj ev
      subst e1; subst e2
      rw [hg] at hg'
      injection hg' with h1
      injection h1 with h2 h3 h4
      exact he h3

theorem ok_grown {W W' : World} {base n : Nat} {l : List UInt8} {v : Value} {xs : List Value} {x : RX} (h : RX.ok base l x W) (hr : W.ownsRow base 27 3 v n xs) (hg : W.grownBy W' v.ownBlock) : RX.ok base l x W' :=
  ⟨h.1, owns_kp h.2 (Kp.grown hg) (fun k hk e => rec_off h.2 hr (by decide) k hk e)⟩

theorem rx_one (l : List UInt8) (x : RX) : ∀ u ∈ RX.cells l x, u.oneCell' = true := by
  intro u hu
  simp [RX.cells] at hu
  rcases hu with rfl | rfl | rfl <;> rfl

theorem rec_parts {t : Nat} {z : Value} {s b : Nat} (h : (Try.prog.info? t).map (fun i => (i.zero, i.size, i.bytes)) = some (some z, s, b)) : ∃ i, Try.prog.info? t = some i ∧ i.zero = some z ∧ i.size = s ∧ i.bytes = b := by
  cases hi : Try.prog.info? t with
  | none => rw [hi] at h; cases h
  | some i =>
    rw [hi] at h
    simp only [Option.map_some, Option.some.injEq, Prod.mk.injEq] at h
    exact ⟨i, rfl, h.1, h.2.1, h.2.2⟩

/-- What is told of the record at p. -/
def OneP (l : List UInt8) (p : Nat) (w : World) (e : Ending) (w' : World) : Prop :=
  (EntAt l p 65536 ∧ (∃ ba bc, e = .returned (.tuple #[.agg #[.int .i64 (numAt l p : Int), .int .u8 ((kindAt l p).toNat : Int), .slice ba (sizeAt l p - 9) bc], .int .i64 ((sizeAt l p : Int) + 8)]) ∧ Own w' w.heap.size (.slice ba (sizeAt l p - 9) bc) (bodyAt l p)) ∧ Below w.heap.size w w') ∨
  (¬ EntAt l p 65536 ∧ e = .returned (.tuple #[.agg #[.int .i64 0, .int .u8 0, .slice none 0 0], .int .i64 0]) ∧ Below w.heap.size w w')

theorem one_drop {l : List UInt8} {p : Nat} {w w' : World} {e : Ending} (hp : p ≤ l.length) (h : OneIs (l.drop p) 65536 w e w') : OneP l p w e w' := by
  unfold OneIs at h
  rw [ent_drop l p 65536 hp, size_drop, num_drop, kind_drop, body_drop] at h
  exact h

theorem at_drop {w : World} {b o : Nat} {l : List UInt8} (h : At w (some ⟨b, o, none⟩) l) (p : Nat) : At w (some ⟨b, o + p, none⟩) (l.drop p) := by
  intro hne
  obtain ⟨b', o', e, hc⟩ := h (by intro e; rw [e] at hne; simp at hne)
  cases e
  refine ⟨b, o + p, rfl, fun i hi => ?_⟩
  rw [List.length_drop] at hi
  have := hc (p + i) (by omega)
  rw [← Nat.add_assoc] at this
  rw [this]
  simp

theorem three_one (x y z : Value) (hx : x.oneCell' = true) (hy : y.oneCell' = true) (hz : z.oneCell' = true) : ∀ u ∈ [x, y, z], u.oneCell' = true := by
  intro u hu
  simp at hu
  rcases hu with rfl | rfl | rfl <;> assumption
theorem stay3 {w w' : World} {ad : Addr} {v : Value} (hb : Below w.heap.size w w') (h : w.cell? ad = some v) : w'.cell? ad = some v := cell_b hb h
theorem cell_grown {W W' : World} {row : Option Nat} {ad : Addr} {u : Value} (h : W.cell? ad = some u) (hg : W.grownBy W' row) (hr : ¬ row = some ad.block) : W'.cell? ad = some u := by
  rw [World.cell?_of_block (w := W) (a := ad) (hg.block _ (World.block_lt_of_cell? W _ h) fun e => hr e.symm)]
  exact h

set_option maxRecDepth 100000 in
set_option maxHeartbeats 8000000 in
theorem recordsr_any (a : Option Addr) (len cap : Nat) (l : List UInt8) (next : Int) (w : World) (hl : l.length = len) (hlen : len ≤ 300000) (hcap : len ≤ cap) (hat : At w a l) :
    Calls Try.prog 26 #[.slice a len cap, .int .i64 next] w fun e w' => ∃ (xs : List RX) (v : Value), e = .returned (.tuple #[v, .int .i64 (stopOf l xs : Int)]) ∧ xs.map (·.p) = poss l (len + 1) 0 next ∧ w'.ownsRow w.heap.size 27 3 v xs.length (xs.flatMap (RX.cells l)) ∧ (∀ x ∈ xs, RX.ok w.heap.size l x w') ∧ Below w.heap.size w w' := by
  obtain ⟨i27, hi27, z270, z271, z272⟩ := rec_parts info27b
  replace hl := hid hl
  replace hat := hid hat
  go_enter Try.func26, Try.ntmps26
  go_wp2_with fail
  go_loopw [1, 6, 7] (fun nv ov av wr => ∃ (pre : List RX) (p f : Nat) (nx : Int), nv = .int .i64 nx ∧ av = .int .i64 (p : Int) ∧ p = stopOf l pre ∧ p ≤ len ∧ pre.length + f = len + 1 ∧ pre.length ≤ p ∧ Hid (poss l (len + 1) 0 next = pre.map (·.p) ++ poss l f p nx) ∧ Hid (wr.ownsRow w.heap.size 27 3 ov pre.length (pre.flatMap (RX.cells l))) ∧ Hid (∀ x ∈ pre, RX.ok w.heap.size l x wr) ∧ Below w.heap.size w wr) (fun _ _ av _ => len + 1 - (intOf av).toNat)
  case atStart => exact ⟨[], 0, len + 1, next, rfl, rfl, rfl, Nat.zero_le _, by simp, by simp, hid (by simp), hid (World.ownsRow_nil _ _ _ _), hid (fun x hx => by cases hx), Below.refl _ _⟩
  case round =>
    obtain ⟨pre, p, f, nx, rfl, rfl, hps, hp, hpf, hpl, hposs, hrow, hok, hb⟩ := hrel
    have kO : ∀ a', (∀ wz, At wz a' (l.drop p) → Calls Try.prog 65 #[.slice a' (len - p) (cap - p), .int .i64 65536] wz fun e w' => OneP l p wz e w') := fun a' wz ha =>
      (refone_any a' (len - p) (cap - p) 65536 (l.drop p) wz (by rw [List.length_drop, hl.out]) (by omega) (by omega) (by omega) ha).mono fun e w' h => one_drop (by rw [hl.out]; exact hp) h
    have hp0 : (p : Int) ≤ (len : Int) := by omega
    replace hps := hid hps
    by_cases hlt : p < len
    · obtain ⟨b, o, e, _⟩ := hat.out (by intro e; have := hl.out; rw [e] at this; simp at this; omega)
      subst e
      have kP := kO (some ⟨b, o + p, none⟩) wr (at_drop (hat.out.below hb) p)
      have hne : ¬ cap = p := by omega
      clear kO
      go_wp2_with fail
      refine kP.mono ?_
      rintro e w1 (⟨hE, ⟨ba, bc, rfl, hO⟩, hb1⟩ | ⟨hE, rfl, hb1⟩)
      · have hsum := hE.sum4
        rw [hl.out] at hsum
        have hnine := hE.nine
        have hnum := hE.num
        have hB1 := bnext hb hb1
        have hG := RBlk.new w1 (.int .i64 (numAt l p : Int)) (.int .u8 ((kindAt l p).toNat : Int)) (.slice ba (sizeAt l p - 9) bc)
        have bl := below_lit w1 (.cells #[.int .i64 (numAt l p : Int), .int .u8 ((kindAt l p).toNat : Int), .slice ba (sizeAt l p - 9) bc] 27)
        have hstand := hid (show Stands l p nx ↔ numAt l p ≠ 0 ∧ (nx = 0 ∨ (numAt l p : Int) = nx) from ⟨fun h => h.2, fun h => ⟨hE, h⟩⟩)
        have hend : endAt l p = p + 8 + sizeAt l p := rfl
        replace hend := hid hend
        have hno := hid (poss_no l f p nx)
        have hyes := hid (fun g h => poss_yes l g p nx h)
        have hcells := hid (show RX.cells l ⟨p, ba, bc⟩ = [.int .i64 (numAt l p : Int), .int .u8 ((kindAt l p).toNat : Int), .slice ba (sizeAt l p - 9) bc] from rfl)
        have hnew := hid (show RX.ok w.heap.size l ⟨p, ba, bc⟩ w1 from ⟨hE, hO.le hb.size⟩)
        have z0 := hG.cell0
        have z1 := hG.cell1
        have z2 := hG.cell2
        replace hE := hid hE
        clear hO hG kP
        generalize hS : sizeAt l p = S at *
        generalize hM : numAt l p = M at *
        generalize hK : (kindAt l p).toNat = KK at *
        replace hS := hid hS
        replace hM := hid hM
        replace hK := hid hK
        have hn0 : ((S : Int) + 8 == 0) = false := by simp; omega
        have hn1 : decide ((S : Int) + 8 = 0) = false := decide_eq_false (by omega)
        by_cases h0 : M = 0
        · have hm0 : ((M : Int) == 0) = true := by simp; omega
          have hm1 : decide ((M : Int) = 0) = true := decide_eq_true (by omega)
          have hfin := hid (show pre.map (·.p) = poss l (len + 1) 0 next by rw [hposs.out, hno.out fun h => (hstand.out.1 h).1 h0, List.append_nil])
          have hrow2 := hid (owns_below hrow.out (bnext hb1 bl))
          have hok2 := hid (fun x (hx : x ∈ pre) => (hok.out x hx).below (bnext hb1 bl))
          have hb2 := bnext hB1 bl
          replace h0 := hid h0
          go_wp2
          go_ret2
          exact ⟨pre, _, by rw [← hps.out]; rfl, hfin.out, hrow2.out, hok2.out, hb2⟩
        · have hm0 : ((M : Int) == 0) = false := by simp; omega
          have hm1 : decide ((M : Int) = 0) = false := decide_eq_false (by omega)
          by_cases hx : nx = 0
          · have hx0 : (nx != 0) = false := by simp; omega
            have hx1 : (nx == 0) = true := by simp; omega
            replace hx := hid hx
            obtain ⟨f', hf⟩ : ∃ f', f = f' + 1 := ⟨f - 1, by omega⟩
            have hst := hid (show poss l (len + 1) 0 next = (pre ++ [(⟨p, ba, bc⟩ : RX)]).map (·.p) ++ poss l f' (endAt l p) ((M : Int) + 1) by
              rw [hposs.out, hf, hyes.out f' (hstand.out.2 ⟨h0, .inl hx.out⟩), List.map_append, List.append_assoc]; rfl)
            have hQ : ∃ Q : Nat, Q = p + 8 + S := ⟨_, rfl⟩
            obtain ⟨Q, hQ⟩ := hQ
            have hQ2 := hid (show endAt l p = Q by rw [hend.out, hQ])
            rw [hQ2.out] at hst
            have hwq : IntKind.i64.wrap ((p : Int) + ((S : Int) + 8)) = (Q : Int) := by rw [IntKind.wrap_i64]; omega
            have hwm : IntKind.i64.wrap ((M : Int) + 1) = (M : Int) + 1 := by rw [IntKind.wrap_i64]; omega
            have hQl : Q ≤ len := by omega
            have hQg : p < Q := by omega
            replace hQ := hid hQ
            replace hf := hid hf
            have hrow1 := hid (owns_below hrow.out hb1)
            have hok1 := hid (fun x (hx : x ∈ pre) => (hok.out x hx).below hb1)
            go_upto_region 6 with fail
            have hrow2 := hid (owns_below hrow1.out bl)
            have hok2 := hid (fun x (hx : x ∈ pre) => (hok1.out x hx).below bl)
            have hnew2 := hid (hnew.out.below bl)
            have hB2 := bnext hB1 bl
            have hg1 := hid (fun k (hk : (u6 : Value).ownBlock = some k) => (World.ownsRow.lt hrow1.out k hk).2)
            generalize w1.alloc (.cells #[.int .i64 (M : Int), .int .u8 (KK : Int), .slice ba (S - 9) bc] 27) = w2 at *
            go_wp2_with (at_builtin; refine Hid.out ?_)
            refine hid ?_
            have bl3 := below_lit w2 (.cells #[.int .i64 (M : Int), .int .u8 (KK : Int), .slice ba (S - 9) bc] 27)
            have hv4 := owns_below hrow2.out bl3
            have B4 := bnext hB2 bl3
            refine wpList_cat _ rfl (.tmp 36) (.tmp 38) 32 rfl w.heap.size 27 i27 _ 3 40 Try.underlying32 hi27 z270 z271 z272 rfl (by omega) _ _ _ rfl hv4 (some ⟨w2.heap.size, 0, none⟩) 1 1 [.int .i64 (M : Int), .int .u8 (KK : Int), .slice ba (S - 9) bc] rfl rfl (cat_lit _ _ _ _ rfl) (three_one _ _ _ rfl rfl rfl) (by unfold maxLen; omega) (by omega) B4.size ?_
            intro v5 w5 hr5 hg5 hv5
            have B5 := B4.grown hg5 B4.size (fun k hk => (World.ownsRow.lt hv4 k hk).1)
            have z5 := cell_grown (stay3 bl3 z0) hg5 (fun e => Nat.lt_irrefl _ (hg1.out _ e))
            have hr6 := hid (show w5.ownsRow w.heap.size 27 3 v5 (pre ++ [(⟨p, ba, bc⟩ : RX)]).length ((pre ++ [(⟨p, ba, bc⟩ : RX)]).flatMap (RX.cells l)) by
              rw [List.length_append, List.flatMap_append, List.flatMap_cons, List.flatMap_nil, List.append_nil, hcells.out]; exact hr5)
            have hok6 := hid (show ∀ x ∈ pre ++ [(⟨p, ba, bc⟩ : RX)], RX.ok w.heap.size l x w5 from fun x hx => by
              rcases List.mem_append.1 hx with h | h
              · exact ok_grown ((hok2.out x h).below bl3) hv4 hg5
              · rw [List.mem_singleton.1 h]; exact ok_grown (hnew2.out.below bl3) hv4 hg5)
            have hstop := hid (show Q = stopOf l (pre ++ [(⟨p, ba, bc⟩ : RX)]) by rw [stop_snoc]; exact hQ2.out.symm)
            clear z0 z1 z2
            go_wp2_with fail
            go_roundw
            case rel => exact ⟨_, Q, f', (M : Int) + 1, rfl, rfl, hstop.out, by omega, by rw [List.length_append]; have := hf.out; simp; omega, by rw [List.length_append]; simp; omega, hst, hr6, hok6, B5⟩
            case measure => simp [intOf]; omega
          · have hx0 : (nx != 0) = true := by simp; omega
            have hx1 : (nx == 0) = false := by simp; omega
            by_cases hy : (M : Int) = nx
            · have hy0 : ((M : Int) != nx) = false := by simp; omega
              replace hy := hid hy
              obtain ⟨f', hf⟩ : ∃ f', f = f' + 1 := ⟨f - 1, by omega⟩
              have hst := hid (show poss l (len + 1) 0 next = (pre ++ [(⟨p, ba, bc⟩ : RX)]).map (·.p) ++ poss l f' (endAt l p) ((M : Int) + 1) by
                rw [hposs.out, hf, hyes.out f' (hstand.out.2 ⟨h0, .inr hy.out⟩), List.map_append, List.append_assoc]; rfl)
              have hQ : ∃ Q : Nat, Q = p + 8 + S := ⟨_, rfl⟩
              obtain ⟨Q, hQ⟩ := hQ
              have hQ2 := hid (show endAt l p = Q by rw [hend.out, hQ])
              rw [hQ2.out] at hst
              have hwq : IntKind.i64.wrap ((p : Int) + ((S : Int) + 8)) = (Q : Int) := by rw [IntKind.wrap_i64]; omega
              have hwm : IntKind.i64.wrap ((M : Int) + 1) = (M : Int) + 1 := by rw [IntKind.wrap_i64]; omega
              have hQl : Q ≤ len := by omega
              have hQg : p < Q := by omega
              replace hQ := hid hQ
              replace hf := hid hf
              have hrow1 := hid (owns_below hrow.out hb1)
              have hok1 := hid (fun x (hx : x ∈ pre) => (hok.out x hx).below hb1)
              go_upto_region 6 with fail
              have hrow2 := hid (owns_below hrow1.out bl)
              have hok2 := hid (fun x (hx : x ∈ pre) => (hok1.out x hx).below bl)
              have hnew2 := hid (hnew.out.below bl)
              have hB2 := bnext hB1 bl
              have hg1 := hid (fun k (hk : (u6 : Value).ownBlock = some k) => (World.ownsRow.lt hrow1.out k hk).2)
              generalize w1.alloc (.cells #[.int .i64 (M : Int), .int .u8 (KK : Int), .slice ba (S - 9) bc] 27) = w2 at *
              go_wp2_with (at_builtin; refine Hid.out ?_)
              refine hid ?_
              have bl3 := below_lit w2 (.cells #[.int .i64 (M : Int), .int .u8 (KK : Int), .slice ba (S - 9) bc] 27)
              have hv4 := owns_below hrow2.out bl3
              have B4 := bnext hB2 bl3
              refine wpList_cat _ rfl (.tmp 36) (.tmp 38) 32 rfl w.heap.size 27 i27 _ 3 40 Try.underlying32 hi27 z270 z271 z272 rfl (by omega) _ _ _ rfl hv4 (some ⟨w2.heap.size, 0, none⟩) 1 1 [.int .i64 (M : Int), .int .u8 (KK : Int), .slice ba (S - 9) bc] rfl rfl (cat_lit _ _ _ _ rfl) (three_one _ _ _ rfl rfl rfl) (by unfold maxLen; omega) (by omega) B4.size ?_
              intro v5 w5 hr5 hg5 hv5
              have B5 := B4.grown hg5 B4.size (fun k hk => (World.ownsRow.lt hv4 k hk).1)
              have z5 := cell_grown (stay3 bl3 z0) hg5 (fun e => Nat.lt_irrefl _ (hg1.out _ e))
              have hr6 := hid (show w5.ownsRow w.heap.size 27 3 v5 (pre ++ [(⟨p, ba, bc⟩ : RX)]).length ((pre ++ [(⟨p, ba, bc⟩ : RX)]).flatMap (RX.cells l)) by
                rw [List.length_append, List.flatMap_append, List.flatMap_cons, List.flatMap_nil, List.append_nil, hcells.out]; exact hr5)
              have hok6 := hid (show ∀ x ∈ pre ++ [(⟨p, ba, bc⟩ : RX)], RX.ok w.heap.size l x w5 from fun x hx => by
                rcases List.mem_append.1 hx with h | h
                · exact ok_grown ((hok2.out x h).below bl3) hv4 hg5
                · rw [List.mem_singleton.1 h]; exact ok_grown (hnew2.out.below bl3) hv4 hg5)
              have hstop := hid (show Q = stopOf l (pre ++ [(⟨p, ba, bc⟩ : RX)]) by rw [stop_snoc]; exact hQ2.out.symm)
              clear z0 z1 z2
              go_wp2_with fail
              go_roundw
              case rel => exact ⟨_, Q, f', (M : Int) + 1, rfl, rfl, hstop.out, by omega, by rw [List.length_append]; have := hf.out; simp; omega, by rw [List.length_append]; simp; omega, hst, hr6, hok6, B5⟩
              case measure => simp [intOf]; omega
            · have hy0 : ((M : Int) != nx) = true := by simp; omega
              have hfin := hid (show pre.map (·.p) = poss l (len + 1) 0 next by rw [hposs.out, hno.out fun h => (hstand.out.1 h).2.elim hx hy, List.append_nil])
              have hrow2 := hid (owns_below hrow.out (bnext hb1 bl))
              have hok2 := hid (fun x (hx : x ∈ pre) => (hok.out x hx).below (bnext hb1 bl))
              have hb2 := bnext hB1 bl
              go_wp2
              go_ret2
              exact ⟨pre, _, by rw [← hps.out]; rfl, hfin.out, hrow2.out, hok2.out, hb2⟩
      · have hfin := hid (show pre.map (·.p) = poss l (len + 1) 0 next by rw [hposs.out, poss_no _ _ _ _ (fun h => hE h.1), List.append_nil])
        have bl := below_lit w1 (.cells #[.int .i64 0, .int .u8 0, .slice none 0 0] 27)
        have hrow2 := hid (owns_below hrow.out (bnext hb1 bl))
        have hok2 := hid (fun x (hx : x ∈ pre) => (hok.out x hx).below (bnext hb1 bl))
        have hb2 := bnext hb (bnext hb1 bl)
        go_wp2
        go_ret2
        exact ⟨pre, _, by rw [← hps.out]; rfl, hfin.out, hrow2.out, hok2.out, hb2⟩
    · have hpe : p = len := by omega
      have hE : ¬ EntAt l p 65536 := fun h => by have h1 := h.four; have h2 := hl.out; omega
      have hfin := hid (show pre.map (·.p) = poss l (len + 1) 0 next by rw [hposs.out, poss_no l f p nx (fun h => hE h.1), List.append_nil])
      have kQ : ∀ a' c', Calls Try.prog 65 #[.slice a' (len - p) c', .int .i64 65536] wr fun e w' => e = .returned (.tuple #[.agg #[.int .i64 0, .int .u8 0, .slice none 0 0], .int .i64 0]) ∧ Below wr.heap.size wr w' := fun a' c' =>
        refone_head a' (len - p) c' 65536 [] wr (by simp; omega) (by omega) (by omega) (at_nil _ _) (fun h => by have := h.1; simp at this)
      clear kO hE
      have hq : cap = p ∨ ¬ cap = p := by omega
      replace hpe := hid hpe
      rcases a with _ | ad
      · rcases hq with hq | hq
        · go_wp2_with fail
          refine (kQ _ _).mono ?_
          rintro e w1 ⟨rfl, hb1⟩
          have bl := below_lit w1 (.cells #[.int .i64 0, .int .u8 0, .slice none 0 0] 27)
          have hrow2 := hid (owns_below hrow.out (bnext hb1 bl))
          have hok2 := hid (fun x (hx : x ∈ pre) => (hok.out x hx).below (bnext hb1 bl))
          have hb2 := bnext hb (bnext hb1 bl)
          go_wp2
          go_ret2
          exact ⟨pre, _, by rw [← hps.out]; rfl, hfin.out, hrow2.out, hok2.out, hb2⟩
        · go_wp2_with fail
          refine (kQ _ _).mono ?_
          rintro e w1 ⟨rfl, hb1⟩
          have bl := below_lit w1 (.cells #[.int .i64 0, .int .u8 0, .slice none 0 0] 27)
          have hrow2 := hid (owns_below hrow.out (bnext hb1 bl))
          have hok2 := hid (fun x (hx : x ∈ pre) => (hok.out x hx).below (bnext hb1 bl))
          have hb2 := bnext hb (bnext hb1 bl)
          go_wp2
          go_ret2
          exact ⟨pre, _, by rw [← hps.out]; rfl, hfin.out, hrow2.out, hok2.out, hb2⟩
      · rcases hq with hq | hq
        · go_wp2_with fail
          refine (kQ _ _).mono ?_
          rintro e w1 ⟨rfl, hb1⟩
          have bl := below_lit w1 (.cells #[.int .i64 0, .int .u8 0, .slice none 0 0] 27)
          have hrow2 := hid (owns_below hrow.out (bnext hb1 bl))
          have hok2 := hid (fun x (hx : x ∈ pre) => (hok.out x hx).below (bnext hb1 bl))
          have hb2 := bnext hb (bnext hb1 bl)
          go_wp2
          go_ret2
          exact ⟨pre, _, by rw [← hps.out]; rfl, hfin.out, hrow2.out, hok2.out, hb2⟩
        · go_wp2_with fail
          refine (kQ _ _).mono ?_
          rintro e w1 ⟨rfl, hb1⟩
          have bl := below_lit w1 (.cells #[.int .i64 0, .int .u8 0, .slice none 0 0] 27)
          have hrow2 := hid (owns_below hrow.out (bnext hb1 bl))
          have hok2 := hid (fun x (hx : x ∈ pre) => (hok.out x hx).below (bnext hb1 bl))
          have hb2 := bnext hb (bnext hb1 bl)
          go_wp2
          go_ret2
          exact ⟨pre, _, by rw [← hps.out]; rfl, hfin.out, hrow2.out, hok2.out, hb2⟩
end Go.Proofs.Ytcbgnodmamcmkaa
