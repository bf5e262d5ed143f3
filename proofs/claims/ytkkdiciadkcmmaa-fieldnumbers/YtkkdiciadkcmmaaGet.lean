/- What Get answers: the first field under a tag, its lists copied. -/
import Derived.Test.YtkkdiciadkcmmaaSame2
namespace Go.Proofs.Ytkkdiciadkcmmaa
open Go.RowKit

def zeroFd : Fd := ⟨0, 0, 0, ByteArray.empty, [], []⟩

/-- The first field under a tag. -/
def getOf (fs : List Fd) (tag : UInt8) : Fd × Bool :=
  match fs with
  | [] => (zeroFd, false)
  | f :: r => if f.tag = tag then (f, true) else getOf r tag

theorem get_found (fs : List Fd) (tag : UInt8) (j : Nat) (h : j < fs.length) (ht : fs[j].tag = tag) (hn : ∀ q (hq : q < fs.length), q < j → fs[q].tag ≠ tag) : getOf fs tag = (fs[j], true) := by
  induction fs generalizing j with
  | nil => simp at h
  | cons f r ih =>
    unfold getOf
    cases j with
    | zero => exact if_pos ht
    | succ j =>
      have h0 : ¬ f.tag = tag := hn 0 (by simp) (by omega)
      rw [if_neg h0]
      rw [ih j (by simpa using h) ht (fun q hq hqj => hn (q + 1) (by simpa using hq) (by omega))]
      rfl

theorem get_none (fs : List Fd) (tag : UInt8) (hn : ∀ q (hq : q < fs.length), fs[q].tag ≠ tag) : getOf fs tag = (zeroFd, false) := by
  induction fs with
  | nil => rfl
  | cons f r ih =>
    unfold getOf
    have h0 : ¬ f.tag = tag := hn 0 (by simp)
    rw [if_neg h0]
    exact ih (fun q hq => hn (q + 1) (by simpa using hq))

/-- The lists may be copied. -/
def Room (i : It) : Prop := i.fd.ns.length * 8 ≤ 140737488355328 ∧ i.fd.texts.length * 16 ≤ 140737488355328

theorem grown_none {w w' : World} (h : w.grownBy w' none) : Below w.heap.size w w' := (Kp.grown h).below (fun k hk => by cases hk) (Nat.le_refl _)

theorem wpList_copynums (w : World) {ops : Array Oper} {rest : List Oper} {o : Oper} {a : Act} {Q : Exit → Act → World → Prop} (hgd : o.guard = none) (s x : Operand)
    (ho : o.op = .call { callee := .builtin .append, args := #[s, x], argTypes := #[27, 27] }) (hs : a.eval s = .slice none 0 0) (ms : List Int) (ad : Option Addr) (m c : Nat) (hx : a.eval x = .slice ad m c) (hm : ms.length = m) (hat : NAt w ad ms) (hb : m * 8 ≤ 140737488355328)
    (h : ∀ a' c' w', Nums w' w.heap.size (.slice a' m c') ms → Below w.heap.size w w' → wpList Try.prog ops Q rest (a.put o.dst (.slice a' m c')) w') : wpList Try.prog ops Q (o :: rest) a w := by
  refine wpList_nums w hgd s x ho w.heap.size _ [] ms hs (Nums.nil _ _) ad m c hx hm hat (by simpa using hb) (Nat.le_refl _) ?_
  intro v' w' h1 h2 _
  rw [List.nil_append] at h1
  obtain ⟨a', c', rfl, _⟩ := owns_form h1
  rw [hm] at h1 ⊢
  exact h a' c' w' h1 (grown_none h2)

theorem wpList_copytxts (w : World) {ops : Array Oper} {rest : List Oper} {o : Oper} {a : Act} {Q : Exit → Act → World → Prop} (hgd : o.guard = none) (s x : Operand)
    (ho : o.op = .call { callee := .builtin .append, args := #[s, x], argTypes := #[28, 28] }) (hs : a.eval s = .slice none 0 0) (ms : List ByteArray) (ad : Option Addr) (m c : Nat) (hx : a.eval x = .slice ad m c) (hm : ms.length = m) (hat : TAt w ad ms) (hb : m * 16 ≤ 140737488355328)
    (h : ∀ a' c' w', Txts w' w.heap.size (.slice a' m c') ms → Below w.heap.size w w' → wpList Try.prog ops Q rest (a.put o.dst (.slice a' m c')) w') : wpList Try.prog ops Q (o :: rest) a w := by
  refine wpList_txts w hgd s x ho w.heap.size _ [] ms hs (Txts.nil _ _) ad m c hx hm hat (by simpa using hb) (Nat.le_refl _) ?_
  intro v' w' h1 h2 _
  rw [List.nil_append] at h1
  obtain ⟨a', c', rfl, _⟩ := owns_form h1
  rw [hm] at h1 ⊢
  exact h a' c' w' h1 (grown_none h2)

theorem results_field2 {fn : Func} {p u : Tmp} (h : fn.results = #[.cell p 30, .tmp u]) (tmps : Array Value) (w : World) (g : Nat) (c0 c1 c2 c3 c4 c5 : Value)
    (hp : tmps.getD p undef = .pointer (some ⟨g, 0, none⟩)) (hg : w.heap[g]? = some (.cells #[c0, c1, c2, c3, c4, c5] 30 (0, 0))) :
    (results fn tmps).run Try.prog w = .ok (.tuple #[.agg #[c0, c1, c2, c3, c4, c5], tmps.getD u undef]) w := by
  have hp' : tmps[p]?.getD undef = .pointer (some ⟨g, 0, none⟩) := by simpa using hp
  simp [results, h, hp', asAddr, run_loadVar_row (P := Try.prog) w g 30 30 _ (0, 0) _ hg Try.underlying30 rfl size30]

/-- What Get answers. -/
def GetPost (w w' : World) (R : Fd × Bool) (e : Ending) : Prop := ∃ it : It, e = .returned (.tuple #[it.val, .bool R.2]) ∧ it.fd = R.1 ∧ ItAt w' it ∧ Below w.heap.size w w'

theorem six_below {w v : World} {g : Nat} (hb : Below w.heap.size w v) (hg : w.heap.size ≤ g) (k0 k1 k2 k3 k4 k5 : Value) : Below w.heap.size w (sixSet v g k0 k1 k2 k3 k4 k5) := hb.trans ((six_kp v g k0 k1 k2 k3 k4 k5).below (fun k e => by omega) hb.size)

theorem cat_own {w w' : World} {base e size n m c : Nat} {a : Option Addr} {xs : List Value} (h : w.ownsRow base e size (.slice a m c) n xs) (h' : ∀ v, w.ownsRow base e size v n xs → w'.ownsRow base e size v n xs) : CAt w' a xs := owns_cat (h' _ h)

theorem get_mid {w W w1 : World} {g G : Nat} {ts : List ByteArray} {ta a1 : Option Addr} {ns : List Int} {n d1 : Nat} {c0 c1 c2 c3 c4 c5 p0 p1 p2 p3 p4 p5 u : Value} (hb : Below g w W) (hts : TAt W ta ts) (hrb : RB W g p0 p1 p2 p3 p4 p5) (ho : Nums w1 W.heap.size (.slice a1 n d1) ns) (hb1 : Below W.heap.size W w1) (hf : RB w1 G c0 c1 c2 c3 c4 c5)
    (hk : Kp (fun k => k = G) w1 (w1.setCell ⟨G, 4, none⟩ u)) (hlt : g < G) (hta : ∀ x, ta = some x → ts ≠ [] → x.block ≠ G) : Nums (w1.setCell ⟨G, 4, none⟩ u) 0 (.slice a1 n d1) ns ∧ TAt (w1.setCell ⟨G, 4, none⟩ u) ta ts ∧ RB (w1.setCell ⟨G, 4, none⟩ u) g p0 p1 p2 p3 p4 p5 ∧ Below g w (w1.setCell ⟨G, 4, none⟩ u) := by
  have hg : g < W.heap.size := (Array.getElem?_eq_some_iff.1 hrb).1
  refine ⟨owns_kp (owns_low ho (Nat.zero_le _)) hk (fun k hk' e => owns_block_ne ho hf (by decide) (by rw [hk', e])), ?_, (hrb.below hb1).kp hk (fun e => by omega), (hb.trans (hb1.mono (Nat.le_of_lt hg))).trans (hk.below (fun k e => by omega) (Nat.le_trans (Nat.le_of_lt hg) hb1.size))⟩
  by_cases hne : ts = []
  · subst hne; exact CAt.nil _ _
  · exact CAt.kp (CAt.below hts hb1) hk (fun x hx e => hta x hx hne e)

theorem get_end {w W w2 : World} {g G : Nat} {ts : List ByteArray} {a1 a2 : Option Addr} {ns : List Int} {n d1 m d2 : Nat} {c0 c1 c2 c3 c4 c5 p0 p1 p2 p3 p4 p5 u : Value} (hb : Below g w W) (hn : Nums W 0 (.slice a1 n d1) ns) (hrb : RB W g p0 p1 p2 p3 p4 p5) (ho : Txts w2 W.heap.size (.slice a2 m d2) ts) (hb2 : Below W.heap.size W w2) (hf : RB w2 G c0 c1 c2 c3 c4 c5)
    (hlt : g < G) : Nums (w2.setCell ⟨G, 5, none⟩ u) 0 (.slice a1 n d1) ns ∧ Txts (w2.setCell ⟨G, 5, none⟩ u) 0 (.slice a2 m d2) ts ∧ RB (w2.setCell ⟨G, 5, none⟩ u) g p0 p1 p2 p3 p4 p5 ∧ Below g w (w2.setCell ⟨G, 5, none⟩ u) := by
  have hk : Kp (fun k => k = G) w2 (w2.setCell ⟨G, 5, none⟩ u) := Kp.setCell (S := fun k => k = G) (p := ⟨G, 5, none⟩) (Kp.refl _ _) rfl _
  have hg : g < W.heap.size := (Array.getElem?_eq_some_iff.1 hrb).1
  have hn2 := owns_below hn hb2
  exact ⟨owns_kp hn2 hk (fun k hk' e => owns_block_ne hn2 hf (by decide) (by rw [hk', e])), owns_kp (owns_low ho (Nat.zero_le _)) hk (fun k hk' e => owns_block_ne ho hf (by decide) (by rw [hk', e])), (hrb.below hb2).kp hk (fun e => by omega), (hb.trans (hb2.mono (Nat.le_of_lt hg))).trans (hk.below (fun k e => by omega) (Nat.le_trans (Nat.le_of_lt hg) hb2.size))⟩

set_option maxRecDepth 100000 in
set_option maxHeartbeats 4000000 in
theorem get_any (a : Option Addr) (len cap : Nat) (tag : UInt8) (its : List It) (w : World) (hl : its.length = len) (hlen : len ≤ 4611686018427387904) (hat : FAt w a its) (hroom : ∀ i ∈ its, Room i) :
    Calls Try.prog 16 #[.slice a len cap, .int .u8 (tag.toNat : Int)] w fun e w' => GetPost w w' (getOf (fds its) tag) e := by
  go_enter Try.func16, Try.ntmps16
  go_wp2
  go_loopw [10] (fun i wr => ∃ j : Nat, j ≤ len ∧ i = .int .i64 j ∧ Below w.heap.size w wr ∧ (∃ c0 c1 c2 c3 c4 c5, RB wr w.heap.size c0 c1 c2 c3 c4 c5) ∧ ∀ q (hq : q < its.length), q < j → its[q].fd.tag ≠ tag) (fun i _ => len - (intOf i).toNat)
  case atStart => exact ⟨0, Nat.zero_le _, rfl, below_lit w _, ⟨_, _, _, _, _, _, heap_alloc_new w _⟩, fun q _ hq => by omega⟩
  case round =>
    obtain ⟨j, hj, rfl, hb, ⟨p0, p1, p2, p3, p4, p5, hrb⟩, hall⟩ := hrel
    by_cases hlt : j < len
    · have hatw := hat.below hb
      obtain ⟨b, o, rfl, hc⟩ := hatw.form (by intro e; subst e; simp at hl; omega)
      obtain ⟨c0, c1, c2, c3, c4, c5⟩ := hc j (by omega)
      have hit := hatw.2 (its[j]'(by omega)) (List.getElem_mem _)
      have hrm := hroom (its[j]'(by omega)) (List.getElem_mem _)
      obtain ⟨it, hit0⟩ : ∃ it, it = its[j]'(by omega) := ⟨_, rfl⟩
      rw [← hit0] at c0 c1 c2 c3 c4 c5 hit hrm
      clear hc
      by_cases htag : it.fd.tag = tag
      · have hget : getOf (fds its) tag = (it.fd, true) := by
          have := get_found (fds its) tag j (by simp [fds]; omega) (by simp [fds]; rw [← hit0]; exact htag) (fun q hq hqj => by simp [fds] at hq ⊢; exact hall q hq hqj)
          rw [this]; simp [fds]; rw [hit0]
        have htb : ((it.fd.tag.toNat : Int) == (tag.toNat : Int)) = true := by rw [htag]; simp
        replace hget := hid hget
        replace htag := hid htag
        replace hit0 := hid hit0
        replace hall := hid hall
        replace hl := hid hl
        obtain ⟨rm1, rm2⟩ := hrm
        have hbl := below_lit wr (.cells #[.int .u8 (it.fd.tag.toNat : Int), .int .u8 (it.fd.kind.toNat : Int), .int .i64 it.fd.n, .string it.fd.text, .slice it.na it.fd.ns.length it.nc, .slice it.ta it.fd.texts.length it.tc] 30)
        have hf1 : RB _ wr.heap.size _ _ _ _ _ _ := heap_alloc_new wr (.cells #[.int .u8 (it.fd.tag.toNat : Int), .int .u8 (it.fd.kind.toNat : Int), .int .i64 it.fd.n, .string it.fd.text, .slice it.na it.fd.ns.length it.nc, .slice it.ta it.fd.texts.length it.tc] 30)
        have hns1 := CAt.below hit.ns hbl
        have hts1 := CAt.below hit.ts hbl
        have hrb1 := hrb.below hbl
        have hglt : w.heap.size < wr.heap.size := (Array.getElem?_eq_some_iff.1 hrb).1
        replace hb := bnext hb hbl
        have hfit := hit.fit
        have htaG : ∀ x, it.ta = some x → it.fd.texts ≠ [] → x.block ≠ wr.heap.size := fun x hx hne e => by
          have := CAt.lt hit.ts (by intro e'; exact hne (by simpa [tvals] using e')) x hx
          omega
        replace htaG := hid htaG
        clear hit hatw hat
        go_wp2_with (first
          | (at_builtin; refine wpList_copynums _ rfl (.const (.slice none 0 0)) (.tmp 19) rfl rfl it.fd.ns it.na it.fd.ns.length it.nc rfl rfl hns1 rm1 ?_; intro a1 d1 w1 ho1 hb1; have hf2 := hf1.below hb1; have k4 := hf2.six.c4; have kf4 := hf2.free 4; have hkS : Kp (fun k => k = wr.heap.size) w1 (w1.setCell ⟨wr.heap.size, 4, none⟩ (.slice a1 it.fd.ns.length d1)) := Kp.setCell (S := fun k => k = wr.heap.size) (p := ⟨wr.heap.size, 4, none⟩) (Kp.refl _ _) rfl _; have hf3 := hf2.set4 (.slice a1 it.fd.ns.length d1); have k5 := hf3.six.c5; obtain ⟨ho1', hts2, hrb2, hbS⟩ := get_mid hb hts1 hrb1 ho1 hb1 hf2 hkS hglt htaG.out)
          | (at_builtin; refine wpList_copytxts _ rfl (.const (.slice none 0 0)) (.tmp 23) rfl rfl it.fd.texts it.ta it.fd.texts.length it.tc rfl rfl hts2 rm2 ?_; intro a2 d2 w2 ho2 hb2; have hf4 := hf3.below hb2; have k6 := hf4.six.c5; have kf6 := hf4.free 5; have hf5 := hf4.set5 (.slice a2 it.fd.texts.length d2); obtain ⟨e0, e1, e2, e3, e4, e5⟩ := hf5.six; obtain ⟨hn3, ht3, hrb3, hb3⟩ := get_end (u := .slice a2 it.fd.texts.length d2) hbS ho1' hrb2 ho2 hb2 hf4 hglt; obtain ⟨r0, r1, r2, r3, r4, r5⟩ := hrb3.six; have s0 := hrb3.free 0; have s1 := hrb3.free 1; have s2 := hrb3.free 2; have s3 := hrb3.free 3; have s4 := hrb3.free 4; have s5 := hrb3.free 5))
        have hfin := hrb3.all (.int .u8 (it.fd.tag.toNat : Int)) (.int .u8 (it.fd.kind.toNat : Int)) (.int .i64 it.fd.n) (.string it.fd.text) (.slice a1 it.fd.ns.length d1) (.slice a2 it.fd.texts.length d2)
        have hbf := six_below hb3 (Nat.le_refl _) (.int .u8 (it.fd.tag.toNat : Int)) (.int .u8 (it.fd.kind.toNat : Int)) (.int .i64 it.fd.n) (.string it.fd.text) (.slice a1 it.fd.ns.length d1) (.slice a2 it.fd.texts.length d2)
        have hk6 := fun v => six_kp v w.heap.size (.int .u8 (it.fd.tag.toNat : Int)) (.int .u8 (it.fd.kind.toNat : Int)) (.int .i64 it.fd.n) (.string it.fd.text) (.slice a1 it.fd.ns.length d1) (.slice a2 it.fd.texts.length d2)
        have hn4 := owns_kp hn3 (hk6 _) (fun k hk e => owns_block_ne hn3 hrb3 (by decide) (by rw [hk, e]))
        have ht4 := owns_kp ht3 (hk6 _) (fun k hk e => owns_block_ne ht3 hrb3 (by decide) (by rw [hk, e]))
        go_wp2
        (try simp only [Exit.inBlock, Exit.then]); refine bodyPost_ret (results_field2 rfl _ _ w.heap.size _ _ _ _ _ _ rfl hfin) rfl ?_
        rw [hget.out]
        exact ⟨⟨it.fd, a1, d1, a2, d2⟩, rfl, rfl, ⟨owns_cat hn4, owns_cat ht4, hfit⟩, hbf⟩
      · have htb : ((it.fd.tag.toNat : Int) == (tag.toNat : Int)) = false := byte_ne htag
        have hall' : ∀ q (hq : q < its.length), q < j + 1 → its[q].fd.tag ≠ tag := fun q hq hqj => by
          rcases Nat.lt_or_ge q j with h | h
          · exact hall q hq h
          · obtain rfl : q = j := by omega
            rw [← hit0]; exact htag
        have hbl := below_lit wr (.cells #[.int .u8 (it.fd.tag.toNat : Int), .int .u8 (it.fd.kind.toNat : Int), .int .i64 it.fd.n, .string it.fd.text, .slice it.na it.fd.ns.length it.nc, .slice it.ta it.fd.texts.length it.tc] 30)
        have hrb1 := hrb.below hbl
        replace hb := bnext hb hbl
        replace htag := hid htag
        replace hit0 := hid hit0
        replace hall := hid hall
        replace hall' := hid hall'
        replace hl := hid hl
        go_wp2
        go_roundw
        case rel => exact ⟨j + 1, by omega, by go_num, hb, ⟨_, _, _, _, _, _, hrb1⟩, hall'.out⟩
        case measure => simp [intOf]; omega
    · obtain rfl : j = len := by omega
      have hget : getOf (fds its) tag = (zeroFd, false) := get_none (fds its) tag (fun q hq => by simp [fds] at hq ⊢; exact hall q hq (by omega))
      replace hget := hid hget
      replace hall := hid hall
      obtain ⟨r0, r1, r2, r3, r4, r5⟩ := hrb.six
      have s0 := hrb.free 0
      have s1 := hrb.free 1
      have s2 := hrb.free 2
      have s3 := hrb.free 3
      have s4 := hrb.free 4
      have s5 := hrb.free 5
      have hfin := hrb.all (.int .u8 0) (.int .u8 0) (.int .i64 0) (.string ByteArray.empty) (.slice none 0 0) (.slice none 0 0)
      have hbf := six_below hb (Nat.le_refl _) (.int .u8 0) (.int .u8 0) (.int .i64 0) (.string ByteArray.empty) (.slice none 0 0) (.slice none 0 0)
      go_wp2
      (try simp only [Exit.inBlock, Exit.then]); refine bodyPost_ret (results_field2 rfl _ _ w.heap.size _ _ _ _ _ _ rfl hfin) rfl ?_
      rw [hget.out]
      exact ⟨⟨zeroFd, none, 0, none, 0⟩, rfl, rfl, ⟨CAt.nil _ _, CAt.nil _ _, ⟨by unfold In64 zeroFd; simp, by unfold zeroFd; simp⟩⟩, hbf⟩
end Go.Proofs.Ytkkdiciadkcmmaa
