/- How many cores run for an account, and for a quality; whether a limit is passed. -/
import Derived.Test.YtpebhjncdfcmnaaCnt
import Derived.Test.YtpebhjncdfcmnaaVals
import Derived.Test.YtpebhjncdfcmnaaDraw2
namespace Go.Proofs.Ytpebhjncdfcmnaa
open Go.RowKit
set_option linter.unusedVariables false

theorem range_below {w w' : World} {b o : Nat} {cs : List Value} (h : w.rangeAt b o cs) (hb : Below w.heap.size w w') : w'.rangeAt b o cs := fun j v hv => stay hb (h j v hv)
theorem lit_range (w : World) (e : Nat) (cs : List Value) : (w.alloc (.cells cs.toArray e)).rangeAt w.heap.size 0 cs := fun j v hv => by
  rw [Nat.zero_add]; exact lit_cell w e cs.toArray j v (by simpa using hv)

/-- Which error a name of an account has. -/
def cErr (A : List Acc) (Q : List Qu) (n : ByteArray) : Int := if confB A Q = true then (if (fi A n).isSome = true then 0 else 141) else 2
def cVal (A : List Acc) (Q : List Qu) (L : List Job) (n : ByteArray) : Int := if cErr A Q n = 0 then (cntP (onP A n) L).1 else 0
def qErr (A : List Acc) (Q : List Qu) (n : ByteArray) : Int := if confB A Q = true then (if (qi Q n).isSome = true then 0 else 141) else 2
def qVal (A : List Acc) (Q : List Qu) (L : List Job) (n : ByteArray) : Int := if qErr A Q n = 0 then (cntP (inP n) L).1 else 0
def qNum (A : List Acc) (Q : List Qu) (L : List Job) (n : ByteArray) : Int := if qErr A Q n = 0 then ((cntP (inP n) L).2 : Int) else 0

set_option maxRecDepth 100000 in
set_option maxHeartbeats 1000000 in
theorem cores_any (ca pa aa qa : Option Addr) (cn cc pn pc ak az qk qc : Nat) (pol : Int) (A : List Acc) (Q : List Qu) (a : Option Addr) (k c : Nat) (L : List Job) (n : ByteArray) (w : World) (hA : A.length = ak) (hac : ak ≤ az) (hQ : Q.length = qk) (hatA : AAt w aa A) (hatQ : QAt w qa Q) (hn : L.length = k) (hl : k ≤ 4611686018427387904) (hat : JAt w a L) :
    Calls Try.prog 11 #[.agg #[.slice ca cn cc, .slice pa pn pc, .slice aa ak az, .slice qa qk qc, .int .u8 pol], .slice a k c, .string n] w fun e w' => e = .returned (.tuple #[.int .i64 (cVal A Q L n), .int .i64 (cErr A Q n)]) ∧ Below w.heap.size w w' := by
  have bl := below_lit w (.cells #[.slice ca cn cc, .slice pa pn pc, .slice aa ak az, .slice qa qk qc, .int .u8 pol] 28)
  have k1 := conf_any ca pa aa qa cn cc pn pc ak az qk qc pol A Q _ hA hac hQ (hatA.below bl) (hatQ.below bl)
  have hlen : rightB A = true → ak ≤ 16 := fun h => by rw [← hA]; exact (right_is.1 h).2.1
  have k2 := fun (h : rightB A = true) w2 (hb : Below w.heap.size w w2) => find_any aa ak az A n w2 hA (by have := hlen h; omega) (hatA.below hb)
  have k3 := fun (he : errP A n = 0) w2 (hb : Below w.heap.size w w2) => ofacc_any aa ak az A a k c L n w2 hA hac (hatA.below hb) he hn hl (hat.below hb)
  have c2 := lit_cell w 28 #[.slice ca cn cc, .slice pa pn pc, .slice aa ak az, .slice qa qk qc, .int .u8 pol] 2 _ rfl
  obtain ⟨W0, hW0⟩ : ∃ W0, W0 = w.alloc (.cells #[.slice ca cn cc, .slice pa pn pc, .slice aa ak az, .slice qa qk qc, .int .u8 pol] 28) := ⟨_, rfl⟩
  rw [← hW0] at bl k1 c2
  replace hA := hid hA
  replace hQ := hid hQ
  replace hatA := hid hatA
  replace hatQ := hid hatQ
  replace hn := hid hn
  replace hat := hid hat
  replace hlen := hid hlen
  cases hR : confB A Q with
  | false =>
    have e1 : cErr A Q n = 2 := by unfold cErr; rw [hR]; rfl
    have e2 : cVal A Q L n = 0 := by unfold cVal; rw [e1]; rfl
    rw [e1, e2]
    rw [hR] at k1
    replace hR := hid hR
    replace e1 := hid e1
    replace e2 := hid e2
    clear k2 k3
    go_enter Try.func11, Try.ntmps11
    go_wp2_with fail
    rw [← hW0]
    refine k1.mono ?_
    rintro e w1 ⟨rfl, hb1⟩
    have D1 := bnext bl hb1
    go_wp2
    go_ret2
    exact ⟨rfl, D1⟩
  | true =>
    have hRA := (conf_is.1 hR).1
    rw [hR] at k1
    cases hf : fi A n with
    | none =>
      have e1 : cErr A Q n = 141 := by unfold cErr; rw [hR, hf]; rfl
      have e2 : cVal A Q L n = 0 := by unfold cVal; rw [e1]; rfl
      rw [e1, e2]
      replace k2 := k2 hRA
      rw [hf] at k2
      simp only [FRet] at k2
      replace hR := hid hR
      replace hRA := hid hRA
      replace hf := hid hf
      replace e1 := hid e1
      replace e2 := hid e2
      clear k3
      go_enter Try.func11, Try.ntmps11
      go_wp2_with fail
      rw [← hW0]
      refine k1.mono ?_
      rintro e w1 ⟨rfl, hb1⟩
      have D1 := bnext bl hb1
      replace c2 := stay hb1 c2
      go_wp2_with fail
      refine (k2 _ D1).mono ?_
      rintro e w2 ⟨rfl, hb2⟩
      have D2 := bnext D1 hb2
      go_wp2
      go_ret2
      exact ⟨rfl, D2⟩
    | some i =>
      have e1 : cErr A Q n = 0 := by unfold cErr; rw [hR, hf]; rfl
      have e2 : cVal A Q L n = (cntP (onP A n) L).1 := by unfold cVal; rw [e1]; rfl
      rw [e1, e2]
      replace k2 := k2 hRA
      rw [hf] at k2
      simp only [FRet] at k2
      replace k3 := k3 (err_of hRA hf)
      generalize (cntP (onP A n) L).1 = X at *
      replace hR := hid hR
      replace hRA := hid hRA
      replace hf := hid hf
      replace e1 := hid e1
      replace e2 := hid e2
      go_enter Try.func11, Try.ntmps11
      go_wp2_with fail
      rw [← hW0]
      refine k1.mono ?_
      rintro e w1 ⟨rfl, hb1⟩
      have D1 := bnext bl hb1
      replace c2 := stay hb1 c2
      go_wp2_with fail
      refine (k2 _ D1).mono ?_
      rintro e w2 ⟨rfl, hb2⟩
      have D2 := bnext D1 hb2
      replace c2 := stay hb2 c2
      go_wp2_with fail
      refine (k3 _ D2).mono ?_
      rintro e w3 ⟨rfl, hb3⟩
      have D3 := bnext D2 hb3
      go_wp2
      go_ret2
      exact ⟨rfl, D3⟩

theorem results_tmp3 {fn : Func} {t u v : Tmp} (h : fn.results = #[.tmp t, .tmp u, .tmp v]) (tmps : Array Value) (P : Program) (w : World) :
    (results fn tmps).run P w = .ok (.tuple #[tmps.getD t undef, tmps.getD u undef, tmps.getD v undef]) w := by
  simp [results, h]
theorem wrapEq (x : Int) : IntKind.i64.wrap x = wrap64 x := by rw [IntKind.wrap_i64]; unfold wrap64; rfl
theorem size_lit (w : World) (o : Obj) : (w.alloc o).heap.size = w.heap.size + 1 := Array.size_push _
theorem plV_neg {r : Option Nat} (h : r = none) : decide (plV r < 0) = true := by subst h; rfl
theorem plV_pos {r : Option Nat} {i : Nat} (h : r = some i) : decide (plV r < 0) = false := by subst h; exact decide_eq_false (by simp only [plV]; omega)

set_option maxRecDepth 100000 in
set_option maxHeartbeats 1000000 in
theorem qos_any (ca pa aa qa : Option Addr) (cn cc pn pc ak az qk qc : Nat) (pol : Int) (A : List Acc) (Q : List Qu) (a : Option Addr) (k c : Nat) (L : List Job) (n : ByteArray) (w : World) (hA : A.length = ak) (hac : ak ≤ az) (hQ : Q.length = qk) (hatA : AAt w aa A) (hatQ : QAt w qa Q) (hn : L.length = k) (hl : k ≤ 4611686018427387904) (hat : JAt w a L) :
    Calls Try.prog 13 #[.agg #[.slice ca cn cc, .slice pa pn pc, .slice aa ak az, .slice qa qk qc, .int .u8 pol], .slice a k c, .string n] w fun e w' => e = .returned (.tuple #[.int .i64 (qVal A Q L n), .int .i64 (qNum A Q L n), .int .i64 (qErr A Q n)]) ∧ Below w.heap.size w w' := by
  have bl := below_lit w (.cells #[.slice ca cn cc, .slice pa pn pc, .slice aa ak az, .slice qa qk qc, .int .u8 pol] 28)
  have k1 := conf_any ca pa aa qa cn cc pn pc ak az qk qc pol A Q _ hA hac hQ (hatA.below bl) (hatQ.below bl)
  have hlen : qrightB Q = true → qk ≤ 8 := fun h => by rw [← hQ]; exact (qright_is.1 h).2.1
  have k2 := fun (h : qrightB Q = true) w2 (hb : Below w.heap.size w w2) => place_any qa qk qc Q n w2 hQ (by have := hlen h; omega) (hatQ.below hb)
  have k3 := fun w2 (hb : Below w.heap.size w w2) => ofqual_any a k c L n w2 hn hl (hat.below hb)
  rw [show (fun s : Spc => decide (s.qos = n)) = inP n from rfl] at k3
  have c3 := lit_cell w 28 #[.slice ca cn cc, .slice pa pn pc, .slice aa ak az, .slice qa qk qc, .int .u8 pol] 3 _ rfl
  obtain ⟨W0, hW0⟩ : ∃ W0, W0 = w.alloc (.cells #[.slice ca cn cc, .slice pa pn pc, .slice aa ak az, .slice qa qk qc, .int .u8 pol] 28) := ⟨_, rfl⟩
  rw [← hW0] at bl k1 c3
  replace hA := hid hA
  replace hQ := hid hQ
  replace hatA := hid hatA
  replace hatQ := hid hatQ
  replace hn := hid hn
  replace hat := hid hat
  replace hlen := hid hlen
  cases hR : confB A Q with
  | false =>
    have e1 : qErr A Q n = 2 := by unfold qErr; rw [hR]; rfl
    have e2 : qVal A Q L n = 0 := by unfold qVal; rw [e1]; rfl
    have e3 : qNum A Q L n = 0 := by unfold qNum; rw [e1]; rfl
    rw [e1, e2, e3]
    rw [hR] at k1
    replace hR := hid hR
    replace e1 := hid e1
    replace e2 := hid e2
    replace e3 := hid e3
    clear k2 k3
    go_enter Try.func13, Try.ntmps13
    go_wp2_with fail
    rw [← hW0]
    refine k1.mono ?_
    rintro e w1 ⟨rfl, hb1⟩
    have D1 := bnext bl hb1
    go_wp2
    refine bodyPost_ret (results_tmp3 rfl _ _ _) rfl ?_
    exact ⟨rfl, D1⟩
  | true =>
    have hRA := (conf_is.1 hR).2
    rw [hR] at k1
    replace k2 := k2 hRA
    cases hf : qi Q n with
    | none =>
      have e1 : qErr A Q n = 141 := by unfold qErr; rw [hR, hf]; rfl
      have e2 : qVal A Q L n = 0 := by unfold qVal; rw [e1]; rfl
      have e3 : qNum A Q L n = 0 := by unfold qNum; rw [e1]; rfl
      rw [e1, e2, e3]
      rw [hf] at k2
      have hneg := plV_neg (r := none) rfl
      generalize plV none = pl at *
      replace hR := hid hR
      replace hRA := hid hRA
      replace hf := hid hf
      replace e1 := hid e1
      replace e2 := hid e2
      replace e3 := hid e3
      clear k3
      go_enter Try.func13, Try.ntmps13
      go_wp2_with fail
      rw [← hW0]
      refine k1.mono ?_
      rintro e w1 ⟨rfl, hb1⟩
      have D1 := bnext bl hb1
      replace c3 := stay hb1 c3
      go_wp2_with fail
      refine (k2 _ D1).mono ?_
      rintro e w2 ⟨rfl, hb2⟩
      have D2 := bnext D1 hb2
      go_wp2
      refine bodyPost_ret (results_tmp3 rfl _ _ _) rfl ?_
      exact ⟨rfl, D2⟩
    | some i =>
      have e1 : qErr A Q n = 0 := by unfold qErr; rw [hR, hf]; rfl
      have e2 : qVal A Q L n = (cntP (inP n) L).1 := by unfold qVal; rw [e1]; rfl
      have e3 : qNum A Q L n = ((cntP (inP n) L).2 : Int) := by unfold qNum; rw [e1]; rfl
      rw [e1, e2, e3]
      rw [hf] at k2
      have hneg := plV_pos (r := some i) rfl
      generalize plV (some i) = pl at *
      generalize cntP (inP n) L = XY at *
      obtain ⟨X, Y⟩ := XY
      dsimp only at *
      replace hR := hid hR
      replace hRA := hid hRA
      replace hf := hid hf
      replace e1 := hid e1
      replace e2 := hid e2
      replace e3 := hid e3
      go_enter Try.func13, Try.ntmps13
      go_wp2_with fail
      rw [← hW0]
      refine k1.mono ?_
      rintro e w1 ⟨rfl, hb1⟩
      have D1 := bnext bl hb1
      replace c3 := stay hb1 c3
      go_wp2_with fail
      refine (k2 _ D1).mono ?_
      rintro e w2 ⟨rfl, hb2⟩
      have D2 := bnext D1 hb2
      go_wp2_with fail
      refine (k3 _ D2).mono ?_
      rintro e w3 ⟨rfl, hb3⟩
      have D3 := bnext D2 hb3
      go_wp2
      refine bodyPost_ret (results_tmp3 rfl _ _ _) rfl ?_
      exact ⟨rfl, D3⟩

/-- A limit, and what would be used of it. -/
abbrev Bd := Int × Int
def bdAt (L : List Bd) (i : Nat) : Bd := L.getD i (0, 0)
theorem bdAt_eq {L : List Bd} {i : Nat} (h : i < L.length) : L[i] = bdAt L i := by simp [bdAt, h]
def bc (x : Bd) : List Value := [.int .i64 x.1, .int .i64 x.2]
theorem bc_len (x : Bd) : (bc x).length = 2 := rfl
def BAt (w : World) (a : Option Addr) (L : List Bd) : Prop := CAt w a (L.flatMap bc)
def BOwn (w : World) (base : Nat) (v : Value) (L : List Bd) : Prop := w.ownsRow base 102 2 v L.length (L.flatMap bc)
theorem BAt.below {w w' : World} {a : Option Addr} {C : List Bd} (h : BAt w a C) (hb : Below w.heap.size w w') : BAt w' a C := CAt.below h hb
theorem BAt.place {w : World} {a : Option Addr} {C : List Bd} (h : BAt w a C) (h0 : 0 < C.length) : ∃ b o, a = some ⟨b, o, none⟩ := flat_place bc 2 bc_len (by omega) h h0
theorem BAt.one {w : World} {b o : Nat} {C : List Bd} (h : BAt w (some ⟨b, o, none⟩) C) {i : Nat} (hi : i < C.length) :
    w.cell? ⟨b, o + i * 2, none⟩ = some (.int .i64 (bdAt C i).1) ∧ w.cell? ⟨b, o + i * 2 + 1, none⟩ = some (.int .i64 (bdAt C i).2) := by
  have k := fun r hr => flat_cell bc 2 bc_len (by omega) h hi r hr
  have k0 := k 0 (by omega)
  have k1 := k 1 (by omega)
  rw [bdAt_eq hi] at k0 k1
  exact ⟨k0, k1⟩
theorem BOwn.bat {w : World} {base n c : Nat} {a : Option Addr} {C : List Bd} (h : BOwn w base (.slice a n c) C) : BAt w a C := owns_cat h
theorem BOwn.below {w w' : World} {base : Nat} {v : Value} {C : List Bd} (h : BOwn w base v C) (hb : Below w.heap.size w w') : BOwn w' base v C := owns_below h hb
theorem BOwn.nil (w : World) (base : Nat) : BOwn w base (.slice none 0 0) [] := World.ownsRow_nil _ _ _ _
theorem info102 : (Try.prog.info? 102).map (fun i => (i.zero, i.size, i.bytes)) = some (some (.agg #[.int .i64 0, .int .i64 0]), 2, 16) := by kernel_rfl

def pasB (x : Bd) : Bool := decide (-1 < x.1) && decide (x.1 < x.2)
def PassTo (L : List Bd) (j : Nat) : Prop := ∀ i, i < j → pasB (bdAt L i) = false
theorem pass_all {L : List Bd} (h : PassTo L L.length) : L.any pasB = false := by
  rw [List.any_eq_false]
  intro x hx
  obtain ⟨i, hi, e⟩ := List.getElem_of_mem hx
  have := h i hi
  rw [← bdAt_eq hi, e] at this
  rw [this]; simp
theorem pass_one {L : List Bd} {i : Nat} (hi : i < L.length) (h : pasB (bdAt L i) = true) : L.any pasB = true := by
  rw [List.any_eq_true]
  exact ⟨L[i], List.getElem_mem hi, by rw [bdAt_eq hi]; exact h⟩

set_option maxRecDepth 100000 in
set_option maxHeartbeats 1000000 in
theorem passed_any (a : Option Addr) (k c : Nat) (L : List Bd) (w : World) (hn : L.length = k) (hl : k ≤ 4611686018427387904) (hat : BAt w a L) :
    Calls Try.prog 41 #[.slice a k c] w fun e w' => e = .returned (.bool (L.any pasB)) ∧ Below w.heap.size w w' := by
  replace hn := hid hn
  replace hat := hid hat
  go_enter Try.func41, Try.ntmps41
  go_wp2_with fail
  go_loopw [7] (fun i wr => ∃ j : Nat, j ≤ k ∧ i = .int .i64 (j : Int) ∧ Hid (PassTo L j) ∧ Below w.heap.size w wr) (fun i _ => k - (intOf i).toNat)
  case atStart => exact ⟨0, Nat.zero_le _, rfl, hid (fun i hi => by omega), Below.refl _ _⟩
  case round =>
    obtain ⟨j, hj, rfl, hok, hb⟩ := hrel
    by_cases hlt : j < k
    · have hjL : j < L.length := by rw [hn.out]; exact hlt
      obtain ⟨b, o, e⟩ := hat.out.place (by omega)
      subst e
      obtain ⟨x0, x1⟩ := (hat.out.below hb).one hjL
      have bl := below_lit wr (.cells #[.int .i64 (bdAt L j).1, .int .i64 (bdAt L j).2] 102)
      have B0 := bnext hb bl
      have hyes := hid (fun h => pass_one hjL h)
      have hno := hid (fun (h : pasB (bdAt L j) = false) => show PassTo L (j + 1) from fun i hi => by
        rcases Nat.lt_or_ge i j with h3 | h3
        · exact hok.out i h3
        · obtain rfl : i = j := by omega
          exact h)
      have hp : pasB (bdAt L j) = (decide (-1 < (bdAt L j).1) && decide ((bdAt L j).1 < (bdAt L j).2)) := rfl
      generalize bdAt L j = X at *
      obtain ⟨X0, X1⟩ := X
      dsimp only at *
      by_cases h0 : -1 < X0
      · have d0 : decide (-1 < X0) = true := by simpa using h0
        by_cases h1 : X0 < X1
        · have d1 : decide (X0 < X1) = true := by simpa using h1
          have hf := hid (hyes.out (by rw [hp, d0, d1]; rfl))
          replace hp := hid hp
          go_wp2
          go_ret
          rw [hf.out]; exact ⟨rfl, B0⟩
        · have d1 : decide (X0 < X1) = false := by simpa using h1
          have hok2 := hid (hno.out (by rw [hp, d0, d1]; rfl))
          replace hp := hid hp
          replace hok := hid hok
          go_wp2_with fail
          go_roundw
          case rel => exact ⟨j + 1, by omega, by go_num, hok2, B0⟩
          case measure => simp [intOf]; omega
      · have d0 : decide (-1 < X0) = false := by simpa using h0
        have hok2 := hid (hno.out (by rw [hp, d0]; rfl))
        replace hp := hid hp
        replace hok := hid hok
        go_wp2_with fail
        go_roundw
        case rel => exact ⟨j + 1, by omega, by go_num, hok2, B0⟩
        case measure => simp [intOf]; omega
    · have hje : j = k := by omega
      subst hje
      have hf := hid (pass_all (L := L) (by rw [hn.out]; exact hok.out))
      go_wp2
      go_ret
      rw [hf.out]; exact ⟨rfl, hb⟩

def pv43 (g3 g5 : Nat) (X lm jm R : Int) (Y : Nat) (s : Spc) : List Value := [.pointer (some ⟨g3, 2, none⟩), .int .i64 lm, .int .i64 X, .agg (sc s).toArray, .int .i64 R, .int .i64 (wrap64 (X + R)), .agg #[.int .i64 lm, .int .i64 (wrap64 (X + R))], .pointer (some ⟨g3, 3, none⟩), .int .i64 jm, .int .i64 (Y : Int), .int .i64 ((Y + 1 : Nat) : Int), .agg #[.int .i64 jm, .int .i64 ((Y + 1 : Nat) : Int)], undef]

/-- The limits of a quality, and what would be used of them. -/
def qbd (q : Qu) (L : List Job) (s : Spc) : List Bd := [(q.2.2.1, wrap64 ((cntP (inP q.1) L).1 + cor s)), (q.2.2.2, (((cntP (inP q.1) L).2 + 1 : Nat) : Int))]

set_option maxRecDepth 100000 in
set_option maxHeartbeats 2000000 in
theorem onqual_any (nm : ByteArray) (pr lm jm : Int) (s : Spc) (a : Option Addr) (k c : Nat) (L : List Job) (w : World) (hn : L.length = k) (hl : k ≤ 4611686018427387904) (hat : JAt w a L) :
    Calls Try.prog 43 #[.agg #[.string nm, .int .i64 pr, .int .i64 lm, .int .i64 jm], .slice a k c, .agg (sc s).toArray] w fun e w' => ∃ g, e = .returned (.slice (some ⟨g, 0, none⟩) 2 2) ∧ BAt w' (some ⟨g, 0, none⟩) (qbd (nm, pr, lm, jm) L s) ∧ Below w.heap.size w w' := by
  have bl0 := below_lit w (.cells #[.string nm, .int .i64 pr, .int .i64 lm, .int .i64 jm] 59)
  have bl1 := below_lit (w.alloc (.cells #[.string nm, .int .i64 pr, .int .i64 lm, .int .i64 jm] 59)) (.cells (sc s).toArray 32)
  have bl := bnext bl0 bl1
  have k1 := ofqual_any a k c L nm _ hn hl (hat.below bl)
  rw [show (fun s : Spc => decide (s.qos = nm)) = inP nm from rfl] at k1
  have cores64r := fun w => cores64 s w
  have hYl := cnt_len (inP nm) L
  rw [hn] at hYl
  have y0 := stay bl1 (lit_cell w 59 #[.string nm, .int .i64 pr, .int .i64 lm, .int .i64 jm] 0 _ rfl)
  have y2 := stay bl1 (lit_cell w 59 #[.string nm, .int .i64 pr, .int .i64 lm, .int .i64 jm] 2 _ rfl)
  have y3 := stay bl1 (lit_cell w 59 #[.string nm, .int .i64 pr, .int .i64 lm, .int .i64 jm] 3 _ rfl)
  have hsp := lit_range (w.alloc (.cells #[.string nm, .int .i64 pr, .int .i64 lm, .int .i64 jm] 59)) 32 (sc s)
  have hq : qbd (nm, pr, lm, jm) L s = [(lm, wrap64 ((cntP (inP nm) L).1 + cor s)), (jm, (((cntP (inP nm) L).2 + 1 : Nat) : Int))] := rfl
  rw [hq]
  clear hq
  generalize cntP (inP nm) L = XY at *
  obtain ⟨X, Y⟩ := XY
  dsimp only at *
  generalize cor s = R at *
  replace hn := hid hn
  replace hat := hid hat
  have hY : Y ≤ 4611686018427387904 := Nat.le_trans hYl hl
  have hg1 : (w.alloc (.cells #[.string nm, .int .i64 pr, .int .i64 lm, .int .i64 jm] 59)).heap.size = w.heap.size + 1 := size_lit _ _
  obtain ⟨W1, hW1⟩ : ∃ W1, W1 = (w.alloc (.cells #[.string nm, .int .i64 pr, .int .i64 lm, .int .i64 jm] 59)).alloc (.cells (sc s).toArray 32) := ⟨_, rfl⟩
  rw [← hW1] at k1 y0 y2 y3 hsp bl
  rw [hg1] at hsp
  replace hsp := hid hsp
  replace hg1 := hid hg1
  replace bl0 := hid bl0
  replace bl1 := hid bl1
  go_enter Try.func43, Try.ntmps43
  go_wp2_with fail
  rw [← hW1]
  replace hW1 := hid hW1
  refine k1.mono ?_
  rintro e w1 ⟨rfl, hb1⟩
  have D1 := bnext bl hb1
  replace y2 := hid (stay hb1 y2)
  replace y3 := hid (stay hb1 y3)
  replace hsp := hid (range_below hsp.out hb1)
  replace cores64r := hid cores64r
  clear k1
  go_wp2_with fail
  replace cores64r := cores64r.out
  generalize w.heap.size = g3 at y2 y3 hsp ⊢
  generalize g3 + 1 = g5 at hsp ⊢
  refine Fr.wp_region_front 13 (Rel := fun w w' => Below w.heap.size w w') (Pr := PrV (pv43 g3 g5 X lm jm R Y s) [12] (fun _ v w' => ∃ g, v = .slice (some ⟨g, 0, none⟩) 2 2 ∧ CAt w' (some ⟨g, 0, none⟩) [.int .i64 lm, .int .i64 (wrap64 (X + R)), .int .i64 jm, .int .i64 ((Y + 1 : Nat) : Int)])) (by kernel_rfl) (by kernel_rfl) (drew_below _) bel_tr (PrV.mono (fun _ _ _ _ h hb => by obtain ⟨g, e, hc⟩ := h; exact ⟨g, e, CAt.below hc hb⟩)) ?_ (by kernel_rfl) ?_
  · refine ⟨?_, ?_, ?_, ?_, ?_, ?_, ?_, ?_, ?_, ?_, ?_, ?_, ?_, trivial⟩
    · intro ac w hR hd hk K hK
      have e3 : ac.tmps[3]?.getD undef = (.pointer (some ⟨g3, 0, none⟩) : Value) := slot (get_keep (hk 3 (no_dst (by kernel_rfl))) rfl)
      refine yes (want_n rfl) ?_
      have hv := hid (hK (.pointer (some ⟨g3, 2, none⟩)) w (PrV.is rfl rfl) (Below.refl _ _))
      go_simp
      refine kq hv.out ?_
      rfl
    · intro ac w hR hd hk K hK
      have e16 : ac.tmps[16]?.getD undef = (.pointer (some ⟨g3, 2, none⟩) : Value) := slot ((hd 0 _ 16 rfl rfl rfl).val rfl)
      have x0 := stay hR y2.out
      refine yes (want_n rfl) ?_
      have hv := hid (hK (.int .i64 lm) w (PrV.is rfl rfl) (Below.refl _ _))
      go_simp
      refine kq hv.out ?_
      rfl
    · exact fun ac w hR hd hk K hK => yes (want_n rfl) (wp_mv _ rfl _ (get_keep (hk 7 (no_dst (by kernel_rfl))) rfl) (hK _ w (PrV.is rfl rfl) (Below.refl _ _)))
    · exact fun ac w hR hd hk K hK => yes (want_n rfl) (wp_load_mid 32 _ rfl g5 0 (get_keep (hk 5 (no_dst (by kernel_rfl))) rfl) (sc s) _ (range_below hsp.out hR) Try.underlying32 rfl (by kernel_rfl) (hK _ w (PrV.is rfl rfl) (Below.refl _ _)))
    · exact fun ac w hR hd hk K hK => yes (want_n rfl) (wp_callv 64 _ _ rfl _ Try.func64 rfl rfl _ (args1 ((hd 3 _ 19 rfl rfl rfl).val rfl)) (cores64r w) (by rintro e w' ⟨rfl, hb⟩; exact ⟨_, rfl, hK _ w' (PrV.is rfl rfl) (hb)⟩))
    · intro ac w hR hd hk K hK
      have e18 : ac.tmps[18]?.getD undef = (.int .i64 X : Value) := slot ((hd 2 _ 18 rfl rfl rfl).val rfl)
      have e20 : ac.tmps[20]?.getD undef = (.int .i64 R : Value) := slot ((hd 4 _ 20 rfl rfl rfl).val rfl)
      refine yes (want_n rfl) ?_
      have hv := hid (hK (.int .i64 (wrap64 (X + R))) w (PrV.is rfl rfl) (Below.refl _ _))
      go_simp
      refine kq hv.out ?_
      exact congrArg (Value.int .i64) (wrapEq _).symm
    · intro ac w hR hd hk K hK
      have e17 : ac.tmps[17]?.getD undef = (.int .i64 lm : Value) := slot ((hd 1 _ 17 rfl rfl rfl).val rfl)
      have e21 : ac.tmps[21]?.getD undef = (.int .i64 (wrap64 (X + R)) : Value) := slot ((hd 5 _ 21 rfl rfl rfl).val rfl)
      refine yes (want_n rfl) ?_
      have hv := hid (hK (.agg #[.int .i64 lm, .int .i64 (wrap64 (X + R))]) w (PrV.is rfl rfl) (Below.refl _ _))
      go_simp
      refine kq hv.out ?_
      rfl
    · intro ac w hR hd hk K hK
      have e3 : ac.tmps[3]?.getD undef = (.pointer (some ⟨g3, 0, none⟩) : Value) := slot (get_keep (hk 3 (no_dst (by kernel_rfl))) rfl)
      refine yes (want_n rfl) ?_
      have hv := hid (hK (.pointer (some ⟨g3, 3, none⟩)) w (PrV.is rfl rfl) (Below.refl _ _))
      go_simp
      refine kq hv.out ?_
      rfl
    · intro ac w hR hd hk K hK
      have e23 : ac.tmps[23]?.getD undef = (.pointer (some ⟨g3, 3, none⟩) : Value) := slot ((hd 7 _ 23 rfl rfl rfl).val rfl)
      have x0 := stay hR y3.out
      refine yes (want_n rfl) ?_
      have hv := hid (hK (.int .i64 jm) w (PrV.is rfl rfl) (Below.refl _ _))
      go_simp
      refine kq hv.out ?_
      rfl
    · exact fun ac w hR hd hk K hK => yes (want_n rfl) (wp_mv _ rfl _ (get_keep (hk 8 (no_dst (by kernel_rfl))) rfl) (hK _ w (PrV.is rfl rfl) (Below.refl _ _)))
    · intro ac w hR hd hk K hK
      have e25 : ac.tmps[25]?.getD undef = (.int .i64 (Y : Int) : Value) := slot ((hd 9 _ 25 rfl rfl rfl).val rfl)
      have hY1 := hY
      refine yes (want_n rfl) ?_
      have hv := hid (hK (.int .i64 ((Y + 1 : Nat) : Int)) w (PrV.is rfl rfl) (Below.refl _ _))
      go_simp
      refine kq hv.out ?_
      exact congrArg (Value.int .i64) (by rw [wrapEq]; unfold wrap64; omega)
    · intro ac w hR hd hk K hK
      have e24 : ac.tmps[24]?.getD undef = (.int .i64 jm : Value) := slot ((hd 8 _ 24 rfl rfl rfl).val rfl)
      have e26 : ac.tmps[26]?.getD undef = (.int .i64 ((Y + 1 : Nat) : Int) : Value) := slot ((hd 10 _ 26 rfl rfl rfl).val rfl)
      refine yes (want_n rfl) ?_
      have hv := hid (hK (.agg #[.int .i64 jm, .int .i64 ((Y + 1 : Nat) : Int)]) w (PrV.is rfl rfl) (Below.refl _ _))
      go_simp
      refine kq hv.out ?_
      rfl
    · intro ac w hR hd hk K hK
      have e22 : ac.tmps[22]?.getD undef = (.agg #[.int .i64 lm, .int .i64 (wrap64 (X + R))] : Value) := slot ((hd 6 _ 22 rfl rfl rfl).val rfl)
      have e27 : ac.tmps[27]?.getD undef = (.agg #[.int .i64 jm, .int .i64 ((Y + 1 : Nat) : Int)] : Value) := slot ((hd 11 _ 27 rfl rfl rfl).val rfl)
      refine yes (want_n rfl) ?_
      go_simp
      exact hK _ _ (PrV.by rfl ⟨w.heap.size, rfl, cat_lit _ _ [.int .i64 lm, .int .i64 (wrap64 (X + R)), .int .i64 jm, .int .i64 ((Y + 1 : Nat) : Int)] _ rfl⟩) (below_lit _ _)
  · intro ac w1 hdf hsz hkp hval hRw
    obtain ⟨g, q28, hcat⟩ := (hval 12 _ 28 rfl rfl).out rfl
    obtain ⟨f, hf⟩ : ∃ f, f = fun d => ac.tmps.getD d undef := ⟨_, rfl⟩
    have h28 : f 28 = (.slice (some ⟨g, 0, none⟩) 2 2 : Value) := by rw [hf]; exact q28
    have hfa := act_filled hdf hsz hkp
    rw [← hf] at hfa
    rw [hfa]
    clear hdf hsz hkp hval hfa hf q28
    clear ac
    simp only [fillAll, List.take, List.set_cons_zero, List.set_cons_succ, h28]
    clear h28
    change wpAny Try.prog .any _ _ (0 + 1) _ _ _
    refine wpAny_ready (rs := [13]) (by kernel_rfl) (by simp) ?_
    refine AllReady.cons rfl (fun K hK => ?_) AllReady.nil
    go_simp
    refine hK _ _ ?_
    clear hK K
    refine wpAny_done (by kernel_rfl) ?_ _
    have D2 := bnext D1 hRw
    go_wp2
    go_ret
    exact ⟨g, rfl, hcat, D2⟩

end Go.Proofs.Ytpebhjncdfcmnaa
