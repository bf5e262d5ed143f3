/- The law JournalBack answers true, whatever it is handed. -/
import Derived.Test.YtcbgnodmamcmkaaBackP
import Derived.Test.YtcbgnodmamcmkaaSameR
import Derived.BigQuiet
import Derived.Deep.QuietTactic
namespace Go.Proofs.Ytcbgnodmamcmkaa
open Go.RowKit

theorem pick_any (x : Int) (n : Nat) (w : World) (hn : 0 < n) (hn2 : n ≤ 4611686018427387904) :
    Calls Try.prog 35 #[.int .i64 x, .int .i64 n] w fun e w' => (∃ p : Nat, p < n ∧ e = .returned (.int .i64 p)) ∧ w' = w := by
  go_enter Try.func35, Try.ntmps35
  go_wp2
  · rename_i hneg
    go_ret
    have h1 := Int.lt_tmod_of_pos x (show (0 : Int) < n by omega)
    refine ⟨⟨(x.tmod n + n).toNat, by omega, ret_int ?_⟩, rfl⟩
    simp [wrap64]
    omega
  · rename_i hpos
    go_ret
    have h1 := Int.tmod_lt_of_pos x (show (0 : Int) < n by omega)
    exact ⟨⟨(x.tmod n).toNat, by omega, ret_int (by simp; omega)⟩, rfl⟩

theorem back_off {w : World} {base base' e e' size size' m m' : Nat} {v v' : Value} {xs xs' : List Value} (h : w.ownsRow base e size v m xs) (hr : w.ownsRow base' e' size' v' m' xs') (he : e ≠ e') :
    ∀ k, v.ownBlock = some k → v'.ownBlock ≠ some k := by
  intro k hk ev
  rcases h.2 with ⟨hv, _⟩ | ⟨g, cap, cur, hv, _, hg, _⟩
  · rw [hv] at hk; cases hk
  · rcases hr.2 with ⟨hv', _⟩ | ⟨g', cap', cur', hv', _, hg', _⟩
    · rw [hv'] at ev; cases ev
    · rw [hv] at hk
      rw [hv'] at ev
      have e1 : g = k := Option.some.inj hk
      have e2 : g' = k := Option.some.inj ev
      subst e1; subst e2
      rw [hg] at hg'
      injection hg' with h1
      injection h1 with h2 h3 h4
      exact he h3

theorem at_cat {w : World} {a : Option Addr} {l : List UInt8} (h : At w a l) : CAt w a (l.map B) := by
  intro hne
  obtain ⟨b, o, e, hc⟩ := h (by intro e; subst e; exact hne rfl)
  refine ⟨b, o, e, fun i hi => ?_⟩
  rw [hc i (by simpa using hi)]
  simp [B]

theorem info3k : (Try.prog.info? 3).map (fun i => (i.zero, i.size, i.bytes)) = some (some (.int .i64 0), 1, 8) := by kernel_rfl
theorem parts_of {t : Nat} {z : Value} {s b : Nat} (h : (Try.prog.info? t).map (fun i => (i.zero, i.size, i.bytes)) = some (some z, s, b)) : ∃ i, Try.prog.info? t = some i ∧ i.zero = some z ∧ i.size = s ∧ i.bytes = b := by
  cases hi : Try.prog.info? t with
  | none => rw [hi] at h; cases h
  | some i =>
    rw [hi] at h
    simp only [Option.map_some, Option.some.injEq, Prod.mk.injEq] at h
    exact ⟨i, rfl, h.1, h.2.1, h.2.2⟩

def slT (t : Option Addr × Nat × List UInt8) : Value := .slice t.1 t.2.2.length t.2.1

/-- What is gathered of the first i bodies. -/
structure BI (w wr : World) (F i : Nat) (bs : List (List UInt8)) (v7 v8 v9 : Value) (ms : List Rm) : Prop where
  all : Own wr w.heap.size v7 (logB F (rsT bs i))
  want : wr.ownsRow w.heap.size 27 3 v8 ms.length (ms.flatMap Rm.cells)
  bod : ∀ r ∈ ms, At w r.a r.b
  pl : ms.map Rm.plain = plainL F (rsT bs i)
  ends : wr.ownsRow w.heap.size 3 1 v9 (rsT bs i).length ((endsT F (rsT bs i)).map (Value.int .i64))
  bel : Below w.heap.size w wr

theorem BI.mslen {w wr : World} {F i : Nat} {bs : List (List UInt8)} {v7 v8 v9 : Value} {ms : List Rm} (h : BI w wr F i bs v7 v8 v9 ms) : ms.length = (rsT bs i).length := by
  have := congrArg List.length h.pl
  rw [List.length_map, plainL_len] at this
  exact this

theorem BI.below {w wr w' : World} {F i : Nat} {bs : List (List UInt8)} {v7 v8 v9 : Value} {ms : List Rm} (h : BI w wr F i bs v7 v8 v9 ms) (hb : Below wr.heap.size wr w') : BI w w' F i bs v7 v8 v9 ms :=
  ⟨owns_below h.all hb, owns_below h.want hb, h.bod, h.pl, owns_below h.ends hb, bnext h.bel hb⟩

theorem rm_one (r : Rm) : ∀ u ∈ Rm.cells r, u.oneCell' = true := by
  intro u hu
  simp [Rm.cells] at hu
  rcases hu with rfl | rfl | rfl <;> rfl

theorem int_one (x : Int) : ∀ u ∈ [Value.int .i64 x], u.oneCell' = true := by
  intro u hu; simp at hu; subst hu; rfl

theorem rsT_skip {bs : List (List UInt8)} {i : Nat} (h : ¬ (bs.getD i []).length ≤ 65536) : rsT bs (i + 1) = rsT bs i := if_neg h
theorem rsT_more {bs : List (List UInt8)} {i : Nat} (h : (bs.getD i []).length ≤ 65536) : rsT bs (i + 1) = rsT bs i ++ [(UInt8.ofNat i, bs.getD i [])] := if_pos h

theorem BI.skip {w wr : World} {F i : Nat} {bs : List (List UInt8)} {v7 v8 v9 : Value} {ms : List Rm} (h : BI w wr F i bs v7 v8 v9 ms) (hb : ¬ (bs.getD i []).length ≤ 65536) : BI w wr F (i + 1) bs v7 v8 v9 ms := by
  have e := rsT_skip hb
  exact ⟨by rw [e]; exact h.all, h.want, h.bod, by rw [e]; exact h.pl, by rw [e]; exact h.ends, h.bel⟩

theorem flat_snoc (ms : List Rm) (r : Rm) : (ms ++ [r]).flatMap Rm.cells = ms.flatMap Rm.cells ++ Rm.cells r := by simp

/-- One body more has been gathered. -/
theorem BI.more {w wr w7 : World} {F i : Nat} {bs : List (List UInt8)} {v7 v8 v9 u7 u8 u9 : Value} {ms : List Rm} (h : BI w wr F i bs v7 v8 v9 ms) (hi : i < 256) (ba : Option Addr) (bc : Nat) (hb : (bs.getD i []).length ≤ 65536) (hat : At w ba (bs.getD i []))
    (h7 : w7.ownsRow w.heap.size 5 1 u7 ((logB F (rsT bs i)).length + (17 + (bs.getD i []).length)) ((logB F (rsT bs i)).map B ++ (entB (F + (rsT bs i).length) (UInt8.ofNat i) (bs.getD i [])).map B))
    (h8 : w7.ownsRow w.heap.size 27 3 u8 (ms.length + 1) (ms.flatMap Rm.cells ++ Rm.cells ⟨((F + (rsT bs i).length : Nat) : Int), (i : Int), bs.getD i [], ba, bc⟩))
    (h9 : w7.ownsRow w.heap.size 3 1 u9 ((rsT bs i).length + 1) ((endsT F (rsT bs i)).map (Value.int .i64) ++ [.int .i64 (((logB F (rsT bs i)).length + (17 + (bs.getD i []).length) : Nat) : Int)])) (hbel : Below w.heap.size w w7) :
    BI w w7 F (i + 1) bs u7 u8 u9 (ms ++ [⟨((F + (rsT bs i).length : Nat) : Int), (i : Int), bs.getD i [], ba, bc⟩]) := by
  have hm := rsT_more hb
  have hk : (UInt8.ofNat i).toNat = i := by simp; omega
  have hl : (logB F (rsT bs (i + 1))).length = (logB F (rsT bs i)).length + (17 + (bs.getD i []).length) := by rw [hm, logB_snoc, List.length_append, entB_len]
  refine ⟨?_, ?_, ?_, ?_, ?_, hbel⟩
  · unfold Own
    rw [hl, hm, logB_snoc, List.map_append]
    exact h7
  · rw [List.length_append, flat_snoc]
    exact h8
  · intro r hr
    rcases List.mem_append.1 hr with h1 | h1
    · exact h.bod r h1
    · rw [List.mem_singleton.1 h1]; exact hat
  · rw [List.map_append, h.pl, hm, plainL_snoc]
    congr 1
    simp only [List.map_cons, List.map_nil, Rm.plain, hk]
  · rw [show (endsT F (rsT bs (i + 1))) = endsT F (rsT bs i) ++ [((logB F (rsT bs (i + 1))).length : Int)] by rw [hm]; exact endsT_snoc F (rsT bs i) _, hl, List.map_append, hm, List.length_append]
    exact h9

set_option maxRecDepth 100000 in
set_option maxHeartbeats 4000000 in
theorem back_any (f cutv : Int) (a0 : Option Addr) (n c0 : Nat) (T : List (Option Addr × Nat × List UInt8)) (w : World) (hT : T.length = n) (hat : CAt w a0 (T.map slT)) (hb : ∀ t ∈ T, At w t.1 t.2.2) (hn : n ≤ 4611686018427387904) :
    Calls Try.prog 8 #[.int .i64 f, .slice a0 n c0, .int .i64 cutv] w fun e w' => e = .returned (.bool true) ∧ Below w.heap.size w w' := by
  obtain ⟨i5, hi5, z50, z51, z52⟩ := parts_of info5
  obtain ⟨i27, hi27, z270, z271, z272⟩ := parts_of info27b
  obtain ⟨i3, hi3, z30, z31, z32⟩ := parts_of info3k
  obtain ⟨bs, hbs⟩ : ∃ bs : List (List UInt8), bs = T.map (·.2.2) := ⟨_, rfl⟩
  replace hT := hid hT
  replace hat := hid hat
  replace hb := hid hb
  replace hbs := hid hbs
  go_enter Try.func8, Try.ntmps8
  go_wp2_with fail
  refine (pick_any f 1099511627776 _ (by omega) (by omega)).mono ?_
  rintro e w1 ⟨⟨p, hp, rfl⟩, rfl⟩
  obtain ⟨F, hF⟩ : ∃ F : Nat, F = 1 + p := ⟨_, rfl⟩
  have hFw : IntKind.i64.wrap (1 + (p : Int)) = (F : Int) := by rw [IntKind.wrap_i64]; omega
  have hFb : 1 ≤ F ∧ F ≤ 1099511627776 := by omega
  replace hF := hid hF
  go_wp2_with fail
  go_loopw [7, 8, 9, 10] (fun v7 v8 v9 iv wr => ∃ i : Nat, i ≤ n ∧ i ≤ 6 ∧ iv = .int .i64 (i : Int) ∧ ∃ ms, Hid (BI w1 wr F i bs v7 v8 v9 ms)) (fun _ _ _ iv _ => 6 - (intOf iv).toNat)
  case atStart => exact ⟨0, by omega, by omega, rfl, [], hid ⟨by unfold rsT logB; exact Own.nil _ _, World.ownsRow_nil _ _ _ _, by simp, rfl, by unfold rsT endsT; exact World.ownsRow_nil _ _ _ _, Below.refl _ _⟩⟩
  case round =>
    obtain ⟨i, hi, hi6, rfl, ms, hI⟩ := hrel
    by_cases hlt : i < n ∧ i < 6
    · obtain ⟨hl1, hl6⟩ := hlt
      have d1 : decide ((i : Int) < (n : Int)) = true := decide_eq_true (by omega)
      have d2 : decide ((i : Int) < 6) = true := decide_eq_true (by omega)
      have hiT : i < T.length := by rw [hT.out]; exact hl1
      obtain ⟨ab, ao, ea, hc⟩ := (hat.out.below hI.out.bel) (by intro e; rw [List.map_eq_nil_iff] at e; rw [e] at hiT; simp at hiT)
      subst ea
      have y0 := hc i (by simpa using hiT)
      have hbody := hb.out _ (List.getElem_mem hiT)
      have hbd : bs.getD i [] = T[i].2.2 := by rw [hbs.out]; simp [List.getD, hiT]
      rw [List.getElem_map] at y0
      obtain ⟨⟨ba, bc, body⟩, ht⟩ : ∃ t, T[i] = t := ⟨_, rfl⟩
      rw [ht] at y0 hbody hbd
      unfold slT at y0
      dsimp only at y0 hbody hbd
      replace ht := hid ht
      replace hc := hid hc
      obtain ⟨K, hK⟩ : ∃ K, (rsT bs i).length = K := ⟨_, rfl⟩
      have hKb : K ≤ i := by rw [← hK]; exact rsT_len bs i
      have hmsl : ms.length = K := hI.out.mslen.trans hK
      obtain ⟨a8, c8, e8, _⟩ := owns_form hI.out.want
      rw [hmsl] at e8
      subst e8
      have hNw : IntKind.i64.wrap ((F : Int) + (K : Int)) = (F : Int) + (K : Int) := by rw [IntKind.wrap_i64]; omega
      have hju : IntKind.u8.wrap (i : Int) = (i : Int) := by rw [IntKind.wrap_u8]; omega
      have ek : ((UInt8.ofNat i).toNat : Int) = (i : Int) := by simp; omega
      have eN : ((F + K : Nat) : Int) = (F : Int) + (K : Int) := by omega
      have bl := below_lit wr (.cells #[.int .i64 ((F : Int) + (K : Int)), .int .u8 (i : Int), .slice ba body.length bc] 27)
      have I1 := hI.out.below bl
      have X1 : (wr.alloc (.cells #[.int .i64 ((F : Int) + (K : Int)), .int .u8 (i : Int), .slice ba body.length bc] 27)).heap[wr.heap.size]? = some (.cells #[.int .i64 ((F : Int) + (K : Int)), .int .u8 (i : Int), .slice ba body.length bc] 27 (0, 0)) := heap_alloc_new wr _
      replace hK := hid hK
      replace hmsl := hid hmsl
      replace hbd := hid hbd
      by_cases hlong : body.length ≤ 65536
      · have kO := recordbytes_ok (F + K) (UInt8.ofNat i) ba body.length bc body (wr.alloc (.cells #[.int .i64 ((F : Int) + (K : Int)), .int .u8 (i : Int), .slice ba body.length bc] 27)) (by omega) (by omega) rfl hlong (hbody.below I1.bel)
        rw [ek, eN] at kO
        have x0 := cell_of_row _ wr.heap.size 0 _ 27 (0, 0) X1
        have x1 := cell_of_row _ wr.heap.size 1 _ 27 (0, 0) X1
        have x2 := cell_of_row _ wr.heap.size 2 _ 27 (0, 0) X1
        replace I1 := hid I1
        replace hI := hid hI
        go_wp2_with fail
        refine kO.mono ?_
        clear kO x0 x1 x2
        rintro e w2 ⟨g, rfl, hgl, hrow, b2⟩
        dsimp only
        have I2 := I1.out.below b2
        have X2 : w2.heap[wr.heap.size]? = some (.cells #[.int .i64 ((F : Int) + (K : Int)), .int .u8 (i : Int), .slice ba body.length bc] 27 (0, 0)) := by rw [b2.block _ (Array.getElem?_eq_some_iff.1 X1).1]; exact X1
        have hlb := logB_len (rsT bs i) F (rsT_short bs i)
        rw [hK.out] at hlb
        obtain ⟨M, hM⟩ : ∃ M, (logB F (rsT bs i)).length + (17 + body.length) = M := ⟨_, rfl⟩
        have hMb : M ≤ 1000000 := by omega
        have h7lt := hI.out.out.all
        replace I1 := hid I1
        replace X1 := hid X1
        have I2h := hid I2
        replace hrow := hid hrow
        have hb2s := b2.size
        have hz1 : w1.heap.size ≤ wr.heap.size := hI.out.out.bel.size
        have hz2 : w1.heap.size ≤ w2.heap.size := I2h.out.bel.size
        have h7b : ∀ k, u7.ownBlock = some k → k < wr.heap.size := fun k hk => (World.ownsRow.lt h7lt k hk).2
        have hnl : ((entB (F + K) (UInt8.ofNat i) body).map B).length = (17 + body.length) * 1 := by rw [List.length_map, entB_len]; omega
        replace h7lt := hid h7lt
        go_wp2_with (at_builtin; refine Hid.out ?_)
        refine wpList_cat _ rfl (.tmp 56) (.tmp 57) 22 rfl w1.heap.size 5 i5 _ 1 1 Try.underlying22 hi5 z50 z51 z52 rfl (by omega) _ _ _ rfl I2h.out.all (some ⟨g, 0, none⟩) (17 + body.length) _ ((entB (F + K) (UInt8.ofNat i) body).map B) rfl hnl (at_cat hrow.out.at) (B_one _) (by unfold maxLen; omega) (by omega) hz2 ?_
        intro v3 w3 hr3 hg3 hv3
        rw [hM] at hr3
        obtain ⟨a3, c3, e3, _⟩ := owns_form hr3
        subst e3
        have K3 := Kp.grown hg3
        have want3 := owns_kp I2h.out.want K3 (fun k e1 e2 => back_off I2h.out.want I2h.out.all (by decide) k e1 e2)
        have ends3 := owns_kp I2h.out.ends K3 (fun k e1 e2 => back_off I2h.out.ends I2h.out.all (by decide) k e1 e2)
        have hzg : wr.heap.size < w2.heap.size := (Array.getElem?_eq_some_iff.1 X2).1
        have X3 : w3.heap[wr.heap.size]? = some (.cells #[.int .i64 ((F : Int) + (K : Int)), .int .u8 (i : Int), .slice ba body.length bc] 27 (0, 0)) := by
          rw [K3.block wr.heap.size hzg (fun e => by have := h7b _ e; omega)]; exact X2
        have x0 := cell_of_row _ wr.heap.size 0 _ 27 (0, 0) X3
        have x1 := cell_of_row _ wr.heap.size 1 _ 27 (0, 0) X3
        have x2 := cell_of_row _ wr.heap.size 2 _ 27 (0, 0) X3
        have B3 : Below w1.heap.size w1 w3 := I2h.out.bel.grown hg3 hz2 (fun k hk => (World.ownsRow.lt I2h.out.all k hk).1)
        replace hr3 := hid hr3
        replace want3 := hid want3
        replace ends3 := hid ends3
        replace X3 := hid X3
        replace X2 := hid X2
        replace K3 := hid K3
        replace hg3 := hid hg3
        replace hv3 := hid hv3
        have hz3 : w1.heap.size ≤ w3.heap.size := B3.size
        go_wp2_with (at_builtin; refine Hid.out ?_)
        have bl4 := below_lit w3 (.cells #[.int .i64 ((F : Int) + (K : Int)), .int .u8 (i : Int), .slice ba body.length bc] 27)
        have want4 := owns_below want3.out bl4
        have ends4 := owns_below ends3.out bl4
        have all4 := owns_below hr3.out bl4
        have B4 := bnext B3 bl4
        rw [hmsl.out] at want4
        refine wpList_cat _ rfl (.tmp 59) (.tmp 61) 32 rfl w1.heap.size 27 i27 _ 3 40 Try.underlying32 hi27 z270 z271 z272 rfl (by omega) _ _ _ rfl want4 (some ⟨w3.heap.size, 0, none⟩) 1 _ (Rm.cells ⟨(F : Int) + (K : Int), (i : Int), body, ba, bc⟩) rfl rfl (cat_lit _ _ _ _ rfl) (rm_one _) (by unfold maxLen; omega) (by omega) B4.size ?_
        intro v5 w5 hr5 hg5 hv5
        have K5 := Kp.grown hg5
        have ends5 := hid (owns_kp ends4 K5 (fun k e1 e2 => back_off ends4 want4 (by decide) k e1 e2))
        have all5 := hid (owns_kp all4 K5 (fun k e1 e2 => back_off all4 want4 (by decide) k e1 e2))
        have B5 : Below w1.heap.size w1 w5 := B4.grown hg5 B4.size (fun k hk => (World.ownsRow.lt want4 k hk).1)
        replace hr5 := hid hr5
        clear K5 hg5 hv5 want4 ends4 all4 bl4 x0 x1 x2
        go_wp2_with (at_builtin; refine Hid.out ?_)
        have bl6 := below_lit w5 (.cells #[.int .i64 (M : Int)] 3)
        have want6 := owns_below hr5.out bl6
        have ends6 := owns_below ends5.out bl6
        have all6 := owns_below all5.out bl6
        have B6 := bnext B5 bl6
        rw [hK.out] at ends6
        refine wpList_cat _ rfl (.tmp 63) (.tmp 66) 73 rfl w1.heap.size 3 i3 _ 1 8 Try.underlying73 hi3 z30 z31 z32 rfl (by omega) _ _ _ rfl ends6 (some ⟨w5.heap.size, 0, none⟩) 1 _ [.int .i64 (M : Int)] rfl rfl (cat_lit _ _ _ _ rfl) (int_one _) (by unfold maxLen; omega) (by omega) B6.size ?_
        intro v7 w7 hr7 hg7 hv7
        have K7 := Kp.grown hg7
        have want7 := owns_kp want6 K7 (fun k e1 e2 => back_off want6 ends6 (by decide) k e1 e2)
        have all7 := owns_kp all6 K7 (fun k e1 e2 => back_off all6 ends6 (by decide) k e1 e2)
        have B7 : Below w1.heap.size w1 w7 := B6.grown hg7 B6.size (fun k hk => (World.ownsRow.lt ends6 k hk).1)
        have fin := hid (BI.more (u7 := .slice a3 M c3) (u8 := v5) (u9 := v7) (w7 := w7) hI.out.out (by omega) ba bc (by rw [hbd.out]; exact hlong) (by rw [hbd.out]; exact hbody)
          (by rw [hbd.out, hK.out, hM]; exact all7) (by rw [hbd.out, hK.out, hmsl.out, eN]; exact want7) (by rw [hbd.out, hK.out, hM]; exact hr7) B7)
        clear want7 all7 hr7 hg7 hv7 K7 want6 ends6 all6 bl6
        go_wp2_with fail
        go_roundw
        case rel => exact ⟨i + 1, by omega, by omega, by go_num, _, fin⟩
        case measure => simp [intOf]; omega
      · have kL := recordbytes_long ((F : Int) + (K : Int)) (UInt8.ofNat i) ba body.length bc (wr.alloc (.cells #[.int .i64 ((F : Int) + (K : Int)), .int .u8 (i : Int), .slice ba body.length bc] 27)) (by omega) (by omega) (by omega)
        rw [ek] at kL
        have x0 := cell_of_row _ wr.heap.size 0 _ 27 (0, 0) X1
        have x1 := cell_of_row _ wr.heap.size 1 _ 27 (0, 0) X1
        have x2 := cell_of_row _ wr.heap.size 2 _ 27 (0, 0) X1
        have I1s := hid (I1.skip (by rw [hbd.out]; exact hlong))
        replace I1 := hid I1
        replace hI := hid hI
        go_wp2_with fail
        refine kL.mono ?_
        clear kL x0 x1 x2
        rintro e w2 ⟨rfl, b2⟩
        dsimp only
        have I2 := hid (I1s.out.below b2)
        go_wp2_with fail
        go_roundw
        case rel => exact ⟨i + 1, by omega, by omega, by go_num, ms, I2⟩
        case measure => simp [intOf]; omega
    · have hIr := hI.out
      obtain ⟨rs, hrs⟩ : ∃ rs, rsT bs i = rs := ⟨_, rfl⟩
      have hsh := rsT_short bs i
      have hrl := rsT_len bs i
      have hml := hIr.mslen
      have hall := hIr.all
      have hpl := hIr.pl
      have hends := hIr.ends
      have hwant := hIr.want
      have hbod := hIr.bod
      have hbel := hIr.bel
      rw [hrs] at hsh hrl hml hall hpl hends
      obtain ⟨K, hK⟩ : ∃ K, rs.length = K := ⟨_, rfl⟩
      rw [hK] at hrl hml hends
      rw [hml] at hwant
      have hlb := logB_len rs F hsh
      rw [hK] at hlb
      obtain ⟨l, hl⟩ : ∃ l, logB F rs = l := ⟨_, rfl⟩
      rw [hl] at hall hlb
      obtain ⟨LL, hLL⟩ : ∃ LL, l.length = LL := ⟨_, rfl⟩
      rw [hLL] at hlb
      obtain ⟨a7, c7, e7, hc7, hat7⟩ := hall.form
      rw [hLL] at e7 hc7
      subst e7
      obtain ⟨a8, c8, e8, hc8⟩ := owns_form hwant
      subst e8
      obtain ⟨a9, c9, e9, hc9⟩ := owns_form hends
      subst e9
      have hLb : LL ≤ 1000000 := by omega
      have hm40 : F + rs.length ≤ 4611686018427387905 := by omega
      have rd := fun nx hx xs hxs => all_read rs F nx hsh hFb.1 hm40 hx xs hxs
      rw [hl, hLL] at rd
      have rn := fun f => none_read rs F f hsh hm40
      rw [hl] at rn
      have rc := fun c hc xs hxs => cut_read rs F c hsh hFb.1 hm40 hc xs hxs
      rw [hl, hLL, hK] at rc
      have R8 : RAt wr a8 ms := ⟨owns_cat hwant, fun r hr => (hbod r hr).below hbel⟩
      have hlt2 : ¬ (i < n ∧ i < 6) := hlt
      replace hI := hid hI
      replace hIr := hid hIr
      replace hlt := hid hlt
      replace hrs := hid hrs
      replace hsh := hid hsh
      replace hall := hid hall
      replace hpl := hid hpl
      replace hends := hid hends
      replace hwant := hid hwant
      replace hbod := hid hbod
      replace hK := hid hK
      replace hml := hid hml
      replace hl := hid hl
      replace hLL := hid hLL
      replace rd := hid rd
      replace rn := hid rn
      replace rc := hid rc
      replace hm40 := hid hm40
      have dd : (i = 6 ∧ 6 < n) ∨ n = i := by omega
      replace hlt2 := hid hlt2
      have hKi : K ≤ 6 := by omega
      clear hrl hlb
      have k1 := records_any a7 LL c7 l 0 wr hLL.out (by omega) hc7 hat7
      rcases dd with ⟨rfl, d0⟩ | rfl
      all_goals
        first
          | (have d1 : decide ((6 : Int) < (n : Int)) = true := decide_eq_true (by omega))
          | skip
        go_wp2_with fail
        refine k1.mono ?_
        clear k1
        rintro e w2 ⟨xs1, v1, rfl, hx1, ho1, hk1, b2⟩
        dsimp only
        obtain ⟨p1, s1, n1⟩ := rd.out 0 (.inl rfl) xs1 hx1
        have m1 : xs1.length = K := n1.trans hK.out
        obtain ⟨a1, c1, e1, _⟩ := owns_form ho1
        subst e1
        have R1 := rx_rat hk1 (owns_cat ho1)
        rw [s1, m1]
        have q1 : (xs1.map (RX.rm l)).length = K := by rw [List.length_map]; exact m1
        have B2 := bnext hbel b2
        have R8b := R8.below b2
        have k2 := records_any a7 LL c7 l (F : Int) w2 hLL.out (by omega) hc7 (hat7.below b2)
        replace ho1 := hid ho1
        replace hk1 := hid hk1
        replace hx1 := hid hx1
        replace p1 := hid p1
        replace s1 := hid s1
        replace n1 := hid n1
        replace m1 := hid m1
        replace q1 := hid q1
        go_wp2_with fail
        refine k2.mono ?_
        clear k2
        rintro e w3 ⟨xs2, v2, rfl, hx2, ho2, hk2, b3⟩
        dsimp only
        obtain ⟨p2, s2, n2⟩ := rd.out (F : Int) (.inr rfl) xs2 hx2
        have m2 : xs2.length = K := n2.trans hK.out
        obtain ⟨a2, c2, e2, _⟩ := owns_form ho2
        subst e2
        have R2 := rx_rat hk2 (owns_cat ho2)
        rw [s2, m2]
        have q2 : (xs2.map (RX.rm l)).length = K := by rw [List.length_map]; exact m2
        have B3 := bnext B2 b3
        have R1b := R1.below b3
        have R8c := R8b.below b3
        have k3 := samer_any a1 a8 K K c1 c8 (xs1.map (RX.rm l)) ms w3 q1.out hml.out (by omega) R1b R8c (p1.out.trans hpl.out.symm)
        replace ho2 := hid ho2
        replace hk2 := hid hk2
        replace hx2 := hid hx2
        replace p2 := hid p2
        replace s2 := hid s2
        replace n2 := hid n2
        replace m2 := hid m2
        replace q2 := hid q2
        go_wp2_with fail
        refine k3.mono ?_
        clear k3
        rintro e w4 ⟨rfl, b4⟩
        dsimp only
        have B4 := bnext B3 b4
        have R2b := R2.below b4
        have R8d := R8c.below b4
        have k4 := samer_any a2 a8 K K c2 c8 (xs2.map (RX.rm l)) ms w4 q2.out hml.out (by omega) R2b R8d (p2.out.trans hpl.out.symm)
        go_wp2_with fail
        refine k4.mono ?_
        clear k4
        rintro e w5 ⟨rfl, b5⟩
        dsimp only
        have B5 := bnext B4 b5
        have R8e := R8d.below b5
        have hat75 : At w5 a7 l := (((hat7.below b2).below b3).below b4).below b5
        have hends5 := hid (owns_below (owns_below (owns_below (owns_below hends.out b2) b3) b4) b5)
        have hLw : IntKind.i64.wrap ((LL : Int) + 1) = (LL : Int) + 1 := by rw [IntKind.wrap_i64]; omega
        have k5 := pick_any cutv (LL + 1) w5 (by omega) (by omega)
        rw [show ((LL + 1 : Nat) : Int) = (LL : Int) + 1 by omega] at k5
        clear b2 b3 b4 b5 R1 R1b R2 R2b R8 R8b R8c R8d B2 B3 B4
        go_wp2_with fail
        refine k5.mono ?_
        clear k5
        rintro e w6 ⟨⟨q, hq, rfl⟩, rfl⟩
        dsimp only
        replace R8e := hid R8e
        replace B5 := hid B5
        go_wp2_with fail
        go_loopw [18, 19, 20] (fun s18 s19 iv wx => ∃ t : Nat, t ≤ K ∧ s18 = .int .i64 ((whT F rs q t).1 : Int) ∧ s19 = .int .i64 ((whT F rs q t).2 : Int) ∧ iv = .int .i64 (t : Int) ∧ Hid (Below w6.heap.size w6 wx)) (fun _ _ iv _ => K - (intOf iv).toNat)
        case atStart => exact ⟨0, by omega, rfl, rfl, rfl, hid (Below.refl _ _)⟩
        case round =>
          obtain ⟨t, ht, rfl, rfl, rfl, hbx⟩ := hrel
          by_cases htk : t < K
          · have htr : t < rs.length := by rw [hK.out]; exact htk
            have ho := owns_below hends5.out hbx.out
            obtain ⟨g9, e9⟩ : ∃ g9, a9 = some ⟨g9, 0, none⟩ := by
              rcases ho.2 with ⟨hv, _⟩ | ⟨g', cap', cur, hv, _⟩
              · simp only [Value.slice.injEq] at hv; omega
              · simp only [Value.slice.injEq] at hv; exact ⟨g', hv.1⟩
            subst e9
            obtain ⟨E, hE⟩ : ∃ E, (logB F (rs.take (t + 1))).length = E := ⟨_, rfl⟩
            have y0 : wr.cell? ⟨g9, t, none⟩ = some (.int .i64 (E : Int)) := by
              rw [World.ownsRow.cellAt ho t (by omega), List.getElem?_map, List.getElem?_eq_getElem (by rw [endsT_len]; exact htr), endsT_get htr, hE]
              rfl
            have hEb : E ≤ 1000000 := by
              have h1 := logB_mono F rs (show t + 1 ≤ rs.length by omega)
              rw [List.take_length, hl.out, hLL.out, hE] at h1
              omega
            have hstep : whT F rs q (t + 1) = if E ≤ q then (t + 1, E) else whT F rs q t := by rw [← hE]; rfl
            replace ho := hid ho
            replace hE := hid hE
            by_cases hle : E ≤ q
            · rw [if_pos hle] at hstep
              have d3 : decide ((E : Int) ≤ (q : Int)) = true := decide_eq_true (by omega)
              replace hstep := hid hstep
              go_wp2_with fail
              go_quiet (fail)
              have hbx2 := hid (bnext hbx.out (show Below wr.heap.size wr (wr.drewN nq) from ⟨rfl, rfl, rfl, Nat.le_refl _, fun _ _ => rfl⟩))
              generalize wr.drewN nq = wz at *
              go_wp2_with fail
              go_roundw
              case rel => exact ⟨t + 1, by omega, by rw [hstep.out]; go_num, by rw [hstep.out], by go_num, hbx2⟩
              case measure => simp [intOf]; omega
            · rw [if_neg hle] at hstep
              have d3 : decide ((E : Int) ≤ (q : Int)) = false := decide_eq_false (by omega)
              replace hstep := hid hstep
              go_wp2_with fail
              go_roundw
              case rel => exact ⟨t + 1, by omega, by rw [hstep.out], by rw [hstep.out], by go_num, hbx⟩
              case measure => simp [intOf]; omega
          · have htK : K = t := by omega
            subst htK
            have hat7x := hat75.below hbx.out
            have hcl : (l.take q).length = q := by rw [List.length_take, hLL.out]; omega
            have hq2 : q ≤ LL := by omega
            have k6 := records_any a7 q c7 (l.take q) (F : Int) wr hcl (by omega) (by omega) (At.head (z := l.drop q) (by rw [List.take_append_drop]; exact hat7x))
            replace hcl := hid hcl
            go_wp2_with fail
            refine k6.mono ?_
            clear k6
            rintro e w7 ⟨xs3, v3, rfl, hx3, ho3, hk3, b7⟩
            dsimp only
            obtain ⟨k, hkK, hwh, p3, s3, n3⟩ := rc.out q (by omega) xs3 hx3
            obtain ⟨a3, c3, e3, _⟩ := owns_form ho3
            subst e3
            have R3 := rx_rat hk3 (owns_cat ho3)
            rw [s3, n3, hwh]
            dsimp only
            obtain ⟨E, hE⟩ : ∃ E, (logB F (rs.take k)).length = E := ⟨_, rfl⟩
            rw [hE]
            have hB7 := hid (bnext (bnext B5.out hbx.out) b7)
            have R8f := (R8e.out.below hbx.out).below b7
            have hFw1 : IntKind.i64.wrap ((F : Int) + 1) = (F : Int) + 1 := by rw [IntKind.wrap_i64]; omega
            have k7 := records_any a7 LL c7 l ((F : Int) + 1) w7 hLL.out (by omega) hc7 (hat7x.below b7)
            have q3 : (xs3.map (RX.rm (l.take q))).length = k := by rw [List.length_map]; exact n3
            replace hE := hid hE
            replace hwh := hid hwh
            replace s3 := hid s3
            replace n3 := hid n3
            replace p3 := hid p3
            replace ho3 := hid ho3
            replace hk3 := hid hk3
            replace hx3 := hid hx3
            replace q3 := hid q3
            go_wp2_with fail
            refine k7.mono ?_
            clear k7
            rintro e w8 ⟨xs4, v4, rfl, hx4, ho4, hk4, b8⟩
            dsimp only
            rw [rn.out] at hx4
            have hx4n : xs4 = [] := by simpa using hx4
            subst hx4n
            obtain ⟨a4, c4, e4, _⟩ := owns_form ho4
            subst e4
            rw [List.length_nil, show stopOf l [] = 0 from rfl]
            have hB8 := hid (bnext hB7.out b8)
            have R3b := R3.below b8
            have R8g := R8f.below b8
            have hkb : k ≤ K := hkK
            have hsplit : ms = ms.take k ++ ms.drop k := (List.take_append_drop k ms).symm
            have R8k : RAt w8 a8 (ms.take k) := by
              refine ⟨?_, fun r hr => R8g.2 r (List.mem_of_mem_take hr)⟩
              have h1 := R8g.1
              rw [hsplit, List.flatMap_append] at h1
              intro hne
              obtain ⟨bb, oo, ee, hcc⟩ := h1 (by intro e; exact hne (List.append_eq_nil_iff.1 e).1)
              refine ⟨bb, oo, ee, fun x hx => ?_⟩
              rw [hcc x (by rw [List.length_append]; omega), List.getElem_append_left hx]
            have hkl : (ms.take k).length = k := by rw [List.length_take, hml.out]; omega
            have hpk : (xs3.map (RX.rm (l.take q))).map Rm.plain = (ms.take k).map Rm.plain := by rw [p3.out, plainL_take, ← hpl.out, List.map_take]
            have k8 := samer_any a3 a8 k k c3 c8 (xs3.map (RX.rm (l.take q))) (ms.take k) w8 q3.out hkl (by omega) R3b R8k hpk
            have hkc : k ≤ c8 := by omega
            replace hsplit := hid hsplit
            replace hkl := hid hkl
            replace hpk := hid hpk
            replace hx4 := hid hx4
            replace ho4 := hid ho4
            replace hk4 := hid hk4
            go_wp2_with fail
            refine k8.mono ?_
            clear k8
            rintro e w9 ⟨rfl, b9⟩
            have hB9 := hid (bnext hB8.out b9)
            go_wp2_with fail
            refine (awake_any _).mono ?_
            rintro e w10 ⟨rfl, b10⟩
            have hB10 := bnext hB9.out b10
            go_wp2
            go_ret
            exact ⟨rfl, hB10⟩

end Go.Proofs.Ytcbgnodmamcmkaa
