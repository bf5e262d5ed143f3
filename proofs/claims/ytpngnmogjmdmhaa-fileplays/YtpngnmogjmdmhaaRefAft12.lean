/- After of the document's disk: an append. -/
import Derived.Test.YtpngnmogjmdmhaaRefAft11
import Derived.Test.YtpngnmogjmdmhaaDrawAlv
namespace Go.Proofs.Ytpngnmogjmdmhaa
open Go.RowKit
set_option linter.unusedVariables false

/-- 'append(v, x...)' at an operation of a drawn region. -/
theorem op_app (w : World) {o : Oper} {a : Act} {K : Act → World → Prop} {Q : Exit → Act → World → Prop} (s x : Operand)
    (ho : o.op = .call { callee := .builtin .append, args := #[s, x], argTypes := #[26, 26] }) (hty : o.type = 26)
    (base : Nat) (v : Value) (l src : List UInt8) (hs : a.eval s = v) (hown : Own w base v l) (ad : Option Addr) (m c : Nat) (hx : a.eval x = .slice ad m c) (hm : src.length = m) (hat : At w ad src)
    (hb : l.length + m ≤ 140737489000000) (hbase : base ≤ w.heap.size)
    (h : ∀ v' w', Own w' base v' (l ++ src) → Below base w w' → K (a.put o.dst v') w') : Oper.wp Try.prog o a w K Q := by
  obtain ⟨v', w', hrun, h1, h2⟩ := app_slice w base v l src hown ad m c hm hat hb hbase
  unfold Oper.wp
  simp [execOp, ho, hty, resolve, invoke, builtin, hs, hx, hrun, Result.andThen]
  exact h v' w' h1 h2

def St12 (w : World) (T : Nat → Prop) (g7 f k : Nat) (l : List UInt8) (w1 : World) : Prop := ∃ (W : World) (ra : Option Addr) (rc : Nat), FA W T ra rc l ∧ Below w.heap.size w W ∧ w1 = W.setCell ⟨g7, f, none⟩ (.slice ra k rc)

/-- Ahead of the copy, behind it, behind the append, behind the store. -/
def W12 (w : World) (T : Nat → Prop) (g7 f k : Nat) (l dt : List UInt8) (L : Nat → Bool) (V : Nat → Value) (w1 : World) : Prop :=
  if L 10 = true then St12 w T g7 f k (l ++ dt) w1 else Below w.heap.size w w1 ∧ (if L 8 = true then Own w1 w.heap.size (V 8) (l ++ dt) else if L 6 = true then Own w1 w.heap.size (V 6) l else True)

section
variable {w : World} {T : Nat → Prop} {g7 f k : Nat} {l dt : List UInt8} {L L' : Nat → Bool} {V V' : Nat → Value} {w1 : World}
theorem W12.same (h : W12 w T g7 f k l dt L V w1) (h6 : L' 6 = L 6) (h8 : L' 8 = L 8) (h10 : L' 10 = L 10) (v6 : V' 6 = V 6) (v8 : V' 8 = V 8) : W12 w T g7 f k l dt L' V' w1 := by
  unfold W12; rw [h6, h8, h10, v6, v8]; exact h
theorem W12.bel (h : W12 w T g7 f k l dt L V w1) (h10 : L 10 = false) : Below w.heap.size w w1 := by
  unfold W12 at h; rw [h10, if_neg (by simp)] at h; exact h.1
theorem W12.own (h : W12 w T g7 f k l dt L V w1) (h10 : L 10 = false) (h8 : L 8 = false) (h6 : L 6 = true) : Own w1 w.heap.size (V 6) l := by
  unfold W12 at h; rw [h10, h8, h6, if_neg (by simp), if_neg (by simp), if_pos rfl] at h; exact h.2
theorem W12.own2 (h : W12 w T g7 f k l dt L V w1) (h10 : L 10 = false) (h8 : L 8 = true) : Own w1 w.heap.size (V 8) (l ++ dt) := by
  unfold W12 at h; rw [h10, h8, if_neg (by simp), if_pos rfl] at h; exact h.2
theorem W12.fin (h : W12 w T g7 f k l dt L V w1) (h10 : L 10 = true) : St12 w T g7 f k (l ++ dt) w1 := by
  unfold W12 at h; rw [h10, if_pos rfl] at h; exact h
theorem W12.first (h6 : L 6 = false) (h8 : L 8 = false) (h10 : L 10 = false) (hb : Below w.heap.size w w1) : W12 w T g7 f k l dt L V w1 := by
  unfold W12; rw [h10, h8, h6, if_neg (by simp), if_neg (by simp), if_neg (by simp)]; exact ⟨hb, trivial⟩
theorem W12.copied (h8 : L 8 = false) (h10 : L 10 = false) (h6 : L 6 = true) (hb : Below w.heap.size w w1) (ho : Own w1 w.heap.size (V 6) l) : W12 w T g7 f k l dt L V w1 := by
  unfold W12; rw [h10, h8, h6, if_neg (by simp), if_neg (by simp), if_pos rfl]; exact ⟨hb, ho⟩
theorem W12.apped (h10 : L 10 = false) (h8 : L 8 = true) (hb : Below w.heap.size w w1) (ho : Own w1 w.heap.size (V 8) (l ++ dt)) : W12 w T g7 f k l dt L V w1 := by
  unfold W12; rw [h10, h8, if_neg (by simp), if_pos rfl]; exact ⟨hb, ho⟩
theorem W12.stored (h10 : L 10 = true) (h : St12 w T g7 f k (l ++ dt) w1) : W12 w T g7 f k l dt L V w1 := by
  unfold W12; rw [h10, if_pos rfl]; exact h
end

def pv12 (g7 g9 f n cap m dc : Nat) (a da : Option Addr) : Nat → Value → Prop
  | 6, _ => True
  | 8, _ => True
  | i, v => v = [(.pointer (some ⟨g9, 0, none⟩) : Value), .int .i64 (f : Int), .pointer (some ⟨g9, 0, none⟩), .int .i64 (f : Int), .pointer (some ⟨g7, f, none⟩), .slice a n cap, undef, .slice da m dc, undef, .pointer (some ⟨g7, f, none⟩)].getD i undef

set_option maxRecDepth 100000 in
set_option maxHeartbeats 4000000 in
theorem after_r12 {F : Act → World → Prop} {w : World} {T : Nat → Prop} {g7 g9 f n cap m dc : Nat} {a da : Option Addr} {l dt : List UInt8} {c0 c1 c2 c3 c4 c5 c6 c8 c11 c12 c13 c14 c15 c16 c17 c18 c19 c20 c21 c22 c23 c24 c25 c26 c27 c28 c29 c30 c31 c32 c33 c34 c35 c36 c37 c38 c39 c40 c41 c42 c43 c44 c45 c46 c47 c48 c49 c50 c51 c52 c53 c54 c55 c56 c57 c58 c59 c60 c61 c62 c63 c64 c65 c66 : Value}
    (hf3 : f < 3) (y0 : w.cell? ⟨g9, 0, none⟩ = some (.int .i64 (f : Int))) (yf : w.cell? ⟨g7, f, none⟩ = some (.slice a n cap)) (hfz : Hid (∀ w', Below w.heap.size w w' → w'.frozen? ⟨g7, f, none⟩ = false))
    (hl : l.length = n) (hn : n ≤ 140737488355328) (hm : dt.length = m) (hnm : n + m ≤ 140737489000000) (hat : Hid (At w a l)) (hdt : Hid (At w da dt)) (hT : Hid (∀ k, T k → k < w.heap.size))
    (hQ : Hid (∀ (d56 d57 d58 d59 d60 d61 d62 d63 d64 d65 : Value) (ra : Option Addr) (rc : Nat) (w' : World), FA w' T ra rc (l ++ dt) → Below w.heap.size w w' → F ⟨#[c0, c1, c2, c3, c4, c5, c6, .pointer (some ⟨g7, 0, none⟩), c8, .pointer (some ⟨g9, 0, none⟩), .slice da m dc, c11, c12, c13, c14, c15, c16, c17, c18, c19, c20, c21, c22, c23, c24, c25, c26, c27, c28, c29, c30, c31, c32, c33, c34, c35, c36, c37, c38, c39, c40, c41, c42, c43, c44, c45, c46, c47, c48, c49, c50, c51, c52, c53, c54, c55, d56, d57, d58, d59, d60, d61, d62, d63, d64, d65, c66], []⟩ (w'.setCell ⟨g7, f, none⟩ (.slice ra (n + m) rc)))) :
    Code.wp Try.prog ((Try.f60.body.bind (regAt 12)).getD .skip) (Nrm F) ⟨#[c0, c1, c2, c3, c4, c5, c6, .pointer (some ⟨g7, 0, none⟩), c8, .pointer (some ⟨g9, 0, none⟩), .slice da m dc, c11, c12, c13, c14, c15, c16, c17, c18, c19, c20, c21, c22, c23, c24, c25, c26, c27, c28, c29, c30, c31, c32, c33, c34, c35, c36, c37, c38, c39, c40, c41, c42, c43, c44, c45, c46, c47, c48, c49, c50, c51, c52, c53, c54, c55, c56, c57, c58, c59, c60, c61, c62, c63, c64, c65, c66], []⟩ w := by
  conv => arg 2; whnf
  have i0 : (0 : Int) ≤ (f : Int) := by omega
  have i3 : (f : Int) < 3 := by omega
  refine wp_region_alv (Wd := W12 w T g7 f (n + m) l dt) (Pv := pv12 g7 g9 f n cap m dc a da) (by kernel_rfl) (by kernel_rfl) ?_ ?_ ?_
  · intro L V hL
    exact W12.first (hL 6) (hL 8) (hL 10) (drew_below w)
  · refine ⟨?_, ?_, ?_, ?_, ?_, ?_, ?_, ?_, ?_, ?_, ?_, trivial⟩
    · intro ac w1 L hL hup hcl hW hd hk K hK
      have h10 : L 10 = false := not_yet hcl 9 (j := 0) (by kernel_rfl) hL
      have hR := hW.bel h10
      have e9 : ac.tmps[9]?.getD undef = (.pointer (some ⟨g9, 0, none⟩) : Value) := slot (get_keep (hk 9 (no_dst (by kernel_rfl))) rfl)
      refine yes (want_n rfl) ?_
      have hv := hid (hK (.pointer (some ⟨g9, 0, none⟩)) w1 (fun _ => rfl) (fun L' V' h1 h2 h3 h4 => hW.same (h2 6 (by decide)) (h2 8 (by decide)) (h2 10 (by decide)) (h4 6 (by decide)) (h4 8 (by decide))))
      clear hK hW hL hup hd hk hcl
      go_simp
      exact kq hv.out rfl
    · intro ac w1 L hL hup hcl hW hd hk K hK
      have h10 : L 10 = false := not_yet hcl 9 (j := 1) (by kernel_rfl) hL
      have hR := hW.bel h10
      have e56 : ac.tmps[56]?.getD undef = (.pointer (some ⟨g9, 0, none⟩) : Value) := slot (hd 0 _ 56 rfl rfl rfl)
      have x0 := cell_q hR y0
      refine yes (want_n rfl) ?_
      have hv := hid (hK (.int .i64 (f : Int)) w1 (fun _ => rfl) (fun L' V' h1 h2 h3 h4 => hW.same (h2 6 (by decide)) (h2 8 (by decide)) (h2 10 (by decide)) (h4 6 (by decide)) (h4 8 (by decide))))
      clear hK hW hL hup hd hk hcl
      go_simp
      exact kq hv.out rfl
    · intro ac w1 L hL hup hcl hW hd hk K hK
      have h10 : L 10 = false := not_yet hcl 9 (j := 2) (by kernel_rfl) hL
      have hR := hW.bel h10
      have e9 : ac.tmps[9]?.getD undef = (.pointer (some ⟨g9, 0, none⟩) : Value) := slot (get_keep (hk 9 (no_dst (by kernel_rfl))) rfl)
      refine yes (want_n rfl) ?_
      have hv := hid (hK (.pointer (some ⟨g9, 0, none⟩)) w1 (fun _ => rfl) (fun L' V' h1 h2 h3 h4 => hW.same (h2 6 (by decide)) (h2 8 (by decide)) (h2 10 (by decide)) (h4 6 (by decide)) (h4 8 (by decide))))
      clear hK hW hL hup hd hk hcl
      go_simp
      exact kq hv.out rfl
    · intro ac w1 L hL hup hcl hW hd hk K hK
      have h10 : L 10 = false := not_yet hcl 9 (j := 3) (by kernel_rfl) hL
      have hR := hW.bel h10
      have e58 : ac.tmps[58]?.getD undef = (.pointer (some ⟨g9, 0, none⟩) : Value) := slot (hd 2 _ 58 rfl rfl rfl)
      have x0 := cell_q hR y0
      refine yes (want_n rfl) ?_
      have hv := hid (hK (.int .i64 (f : Int)) w1 (fun _ => rfl) (fun L' V' h1 h2 h3 h4 => hW.same (h2 6 (by decide)) (h2 8 (by decide)) (h2 10 (by decide)) (h4 6 (by decide)) (h4 8 (by decide))))
      clear hK hW hL hup hd hk hcl
      go_simp
      exact kq hv.out rfl
    · intro ac w1 L hL hup hcl hW hd hk K hK
      have h10 : L 10 = false := not_yet hcl 9 (j := 4) (by kernel_rfl) hL
      have hR := hW.bel h10
      have e7 : ac.tmps[7]?.getD undef = (.pointer (some ⟨g7, 0, none⟩) : Value) := slot (get_keep (hk 7 (no_dst (by kernel_rfl))) rfl)
      have e59 : ac.tmps[59]?.getD undef = (.int .i64 (f : Int) : Value) := slot (hd 3 _ 59 rfl rfl rfl)
      refine yes (want_n rfl) ?_
      have hv := hid (hK (.pointer (some ⟨g7, f, none⟩)) w1 (fun _ => rfl) (fun L' V' h1 h2 h3 h4 => hW.same (h2 6 (by decide)) (h2 8 (by decide)) (h2 10 (by decide)) (h4 6 (by decide)) (h4 8 (by decide))))
      clear hK hW hL hup hd hk hcl
      go_simp
      exact kq hv.out rfl
    · intro ac w1 L hL hup hcl hW hd hk K hK
      have h10 : L 10 = false := not_yet hcl 9 (j := 5) (by kernel_rfl) hL
      have hR := hW.bel h10
      have e60 : ac.tmps[60]?.getD undef = (.pointer (some ⟨g7, f, none⟩) : Value) := slot (hd 4 _ 60 rfl rfl rfl)
      have x0 := cell_q hR yf
      refine yes (want_n rfl) ?_
      have hv := hid (hK (.slice a n cap) w1 (fun _ => rfl) (fun L' V' h1 h2 h3 h4 => hW.same (h2 6 (by decide)) (h2 8 (by decide)) (h2 10 (by decide)) (h4 6 (by decide)) (h4 8 (by decide))))
      clear hK hW hL hup hd hk hcl
      go_simp
      exact kq hv.out rfl
    · intro ac w1 L hL hup hcl hW hd hk K hK
      have h10 : L 10 = false := not_yet hcl 9 (j := 6) (by kernel_rfl) hL
      have h8 : L 8 = false := not_yet hcl 9 (j := 6) (by kernel_rfl) hL
      have hR := hW.bel h10
      refine yes (want_n rfl) ?_
      refine wp_callv 56 _ _ rfl _ Try.func56 rfl rfl _ (args1 (hd 5 _ 61 rfl rfl rfl)) (copy_any a cap n l w1 hl hn (hat.out.below hR)) ?_
      rintro e w' ⟨v, rfl, ho, hb⟩
      exact ⟨_, rfl, hK v w' (fun _ => trivial) (fun L' V' h1 h2 h3 h4 => W12.copied ((h2 8 (by decide)).trans h8) ((h2 10 (by decide)).trans h10) h1 (bnext hR hb) (by rw [h3 (by simp)]; exact ho.le hR.size))⟩
    · intro ac w1 L hL hup hcl hW hd hk K hK
      have h10 : L 10 = false := not_yet hcl 9 (j := 7) (by kernel_rfl) hL
      have hR := hW.bel h10
      have e10 : ac.tmps[10]?.getD undef = (.slice da m dc : Value) := slot (get_keep (hk 10 (no_dst (by kernel_rfl))) rfl)
      refine yes (want_n rfl) ?_
      have hv := hid (hK (.slice da m dc) w1 (fun _ => rfl) (fun L' V' h1 h2 h3 h4 => hW.same (h2 6 (by decide)) (h2 8 (by decide)) (h2 10 (by decide)) (h4 6 (by decide)) (h4 8 (by decide))))
      clear hK hW hL hup hd hk hcl
      go_simp
      exact kq hv.out rfl
    · intro ac w1 L hL hup hcl hW hd hk K hK
      have h10 : L 10 = false := not_yet hcl 9 (j := 8) (by kernel_rfl) hL
      have h6 : L 6 = true := up_of hup (by kernel_rfl)
      have hR := hW.bel h10
      have ho : Own w1 w.heap.size (ac.tmps.getD 62 undef) l := hW.own h10 hL h6
      refine yes (want_n rfl) ?_
      refine op_app w1 (.tmp 62) (.tmp 63) rfl rfl w.heap.size _ l dt rfl ho da m dc (hd 7 _ 63 rfl rfl rfl) hm (hdt.out.below hR) (by omega) hR.size ?_
      exact fun v w' ho2 hb => hK v w' (fun _ => trivial) (fun L' V' h1 h2 h3 h4 => W12.apped ((h2 10 (by decide)).trans h10) h1 (hR.trans hb) (by rw [h3 (by simp)]; exact ho2))
    · intro ac w1 L hL hup hcl hW hd hk K hK
      have h10 : L 10 = false := not_yet hcl 9 (j := 9) (by kernel_rfl) hL
      have hR := hW.bel h10
      have e7 : ac.tmps[7]?.getD undef = (.pointer (some ⟨g7, 0, none⟩) : Value) := slot (get_keep (hk 7 (no_dst (by kernel_rfl))) rfl)
      have e57 : ac.tmps[57]?.getD undef = (.int .i64 (f : Int) : Value) := slot (hd 1 _ 57 rfl rfl rfl)
      refine yes (want_n rfl) ?_
      have hv := hid (hK (.pointer (some ⟨g7, f, none⟩)) w1 (fun _ => rfl) (fun L' V' h1 h2 h3 h4 => hW.same (h2 6 (by decide)) (h2 8 (by decide)) (h2 10 (by decide)) (h4 6 (by decide)) (h4 8 (by decide))))
      clear hK hW hL hup hd hk hcl
      go_simp
      exact kq hv.out rfl
    · intro ac w1 L hL hup hcl hW hd hk K hK
      have h8 : L 8 = true := up_of hup (by kernel_rfl)
      have hR := hW.bel hL
      have ho := hW.own2 hL h8
      obtain ⟨ra, rc, hv8, hc8, _⟩ := ho.form
      have hlen : (l ++ dt).length = n + m := by rw [List.length_append, hl, hm]
      rw [hlen] at hv8
      have e65 : ac.tmps[65]?.getD undef = (.pointer (some ⟨g7, f, none⟩) : Value) := slot (hd 9 _ 65 rfl rfl rfl)
      have e64 : ac.tmps[64]?.getD undef = (.slice ra (n + m) rc : Value) := slot ((valAt_of (i := 8) rfl rfl).symm.trans hv8)
      rw [hv8] at ho
      have x0 := cell_q hR yf
      have x1 := hfz.out w1 hR
      refine yes (want_n rfl) ?_
      have hv := hid (fun v => hK v (w1.setCell ⟨g7, f, none⟩ (.slice ra (n + m) rc)) (fun h => absurd rfl h) (fun L' V' h1 h2 h3 h4 => W12.stored h1 ⟨w1, ra, rc, FA.own ho hT.out, hR, rfl⟩))
      clear hK hW hL hup hd hk hcl ho hv8
      go_simp
      exact hv.out undef
  · intro ac w1 hdf hsz hkp hval hW
    obtain ⟨L, hall, hW⟩ := hW
    obtain ⟨w2, ra, rc, hfa5, hR, rfl⟩ := hW.fin (hall 10 (by decide))
    obtain ⟨ff, hf⟩ : ∃ ff, ff = fun d => ac.tmps.getD d undef := ⟨_, rfl⟩
    have hfa := act_filled hdf hsz hkp
    rw [← hf] at hfa
    rw [hfa]
    clear hdf hsz hkp hval hfa hf hW
    clear ac
    simp only [fillAll, List.set_cons_zero, List.set_cons_succ]
    exact hQ.out _ _ _ _ _ _ _ _ _ _ ra rc w2 hfa5 hR

end Go.Proofs.Ytpngnmogjmdmhaa
