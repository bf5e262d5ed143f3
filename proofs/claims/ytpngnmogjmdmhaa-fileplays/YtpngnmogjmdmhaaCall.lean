/- What Pick, Made, all and call do. -/
import Derived.Test.YtpngnmogjmdmhaaAwake
namespace Go.Proofs.Ytpngnmogjmdmhaa
open Go.RowKit

theorem pick_any (x : Int) (n : Nat) (w : World) (hn : 0 < n) (hn2 : n ≤ 4611686018427387904) :
    Calls Try.prog 24 #[.int .i64 x, .int .i64 n] w fun e w' => (∃ p : Nat, p < n ∧ e = .returned (.int .i64 p)) ∧ w' = w := by
  go_enter Try.func24, Try.ntmps24
  go_wp2
  · rename_i hneg
    go_ret
    have h1 := Int.lt_tmod_of_pos x (show (0 : Int) < n by omega)
    refine ⟨⟨(x.tmod n + n).toNat, by omega, ret_int ?_⟩, rfl⟩
    simp [wrap64]
    omega
  · rename_i hpos
    go_ret
    have h1 := Int.tmod_lt_of_pos x (show (0 : Int) < n by omega)
    exact ⟨⟨(x.tmod n).toNat, by omega, ret_int (by simp; omega)⟩, rfl⟩

set_option maxRecDepth 100000 in
set_option maxHeartbeats 2000000 in
theorem made_any (seed : Int) (n : Nat) (w : World) (hn : n ≤ 1000) :
    Calls Try.prog 27 #[.int .i64 seed, .int .i64 (n : Int)] w fun e w' => ∃ g l, e = .returned (.slice (some ⟨g, 0, none⟩) n n) ∧ l.length = n ∧ w.heap.size ≤ g ∧ Row w' g l ∧ Below w.heap.size w w' := by
  obtain ⟨i0, hi, hz0, hz1, hz2⟩ := info_parts info5
  go_enter Try.func27, Try.ntmps27
  go_wp2_with (at_make; refine wpList_make_full _ rfl (.tmp 8) (.tmp 8) 26 rfl w.heap.size 5 i0 (.int .u8 0) 1 Try.underlying26 hi hz0 hz1 .i64 .i64 _ _ n rfl rfl (by omega) (by omega) (by rw [hz2]; omega) (by unfold maxLen; omega) (Nat.le_refl _) ?_; intro w1 hown hgr)
  have hrow := row_made hown
  have hb1 : Below w.heap.size w w1 := (Below.refl _ _).grown hgr (Nat.le_refl _) (fun k hk => by cases hk)
  clear hown hgr
  obtain ⟨g, hge⟩ : ∃ g, g = w.heap.size := ⟨_, rfl⟩
  rw [← hge] at hrow
  rw [← hge]
  replace hge := hid hge
  go_loopw [6, 7] (fun xv i wr => ∃ (j : Nat) (X : Int) (l : List UInt8), j ≤ n ∧ i = .int .i64 j ∧ xv = .int .u64 X ∧ l.length = n ∧ Row wr g l ∧ Below w.heap.size w wr) (fun _ i _ => n - (intOf i).toNat)
  case atStart => exact ⟨0, _, List.replicate n 0, Nat.zero_le _, rfl, rfl, by simp, hrow, hb1⟩
  case round =>
    obtain ⟨j, X, l, hj, rfl, rfl, hl, hr, hb⟩ := hrel
    by_cases hlt : j < n
    · obtain ⟨cv, hc⟩ : ∃ cv, wr.cell? ⟨g, j, none⟩ = some (.int .u8 cv) := ⟨_, hr.cell j (by omega)⟩
      have hf := hr.free j
      have hend : ∀ y : Int, 0 ≤ y → y < 256 → Row (wr.setCell ⟨g, j, none⟩ (.int .u8 y)) g (l.set j (UInt8.ofNat y.toNat)) := fun y h0 h1 => by
        have := hr.set j (UInt8.ofNat y.toNat)
        have e : B (UInt8.ofNat y.toNat) = .int .u8 y := by
          unfold B
          congr 1
          rw [UInt8.toNat_ofNat']
          omega
        rwa [e] at this
      replace hend := hid hend
      have hl' := hid hl
      clear hl
      go_wp2
      all_goals
        go_roundw
        case rel => exact ⟨j + 1, _, _, by omega, by go_num, rfl, by simp [hl'.out], hend.out _ (Int.emod_nonneg _ (by decide)) (Int.emod_lt_of_pos _ (by decide)), hb.setCell (p := ⟨g, j, none⟩) (Nat.le_of_eq hge.out.symm) _⟩
        case measure => simp [intOf]; omega
    · obtain rfl : j = n := by omega
      have hl' := hid hl
      clear hl
      go_wp2
      go_ret
      exact ⟨g, l, rfl, hl'.out, Nat.le_of_eq hge.out.symm, hr, hb⟩

/-- A [3]string in a block of its own. -/
def TBlk (w : World) (g : Nat) (t : Nat → ByteArray) : Prop := w.heap[g]? = some (.cells #[.string (t 0), .string (t 1), .string (t 2)] 66 (0, 0))
section
variable {w : World} {g : Nat} {t : Nat → ByteArray}
theorem TBlk.cell (h : TBlk w g t) (j : Nat) (hj : j < 3) : w.cell? ⟨g, j, none⟩ = some (.string (t j)) := by
  unfold TBlk at h
  match j, hj with
  | 0, _ | 1, _ | 2, _ => simp [World.cell?, h]
theorem TBlk.free (h : TBlk w g t) (j : Nat) : w.frozen? ⟨g, j, none⟩ = false := by unfold TBlk at h; simp [World.frozen?, h]
theorem TBlk.lt (h : TBlk w g t) : g < w.heap.size := (Array.getElem?_eq_some_iff.1 h).1
theorem TBlk.below {w' : World} (h : TBlk w g t) (hb : Below w.heap.size w w') : TBlk w' g t := by unfold TBlk; rw [hb.block g h.lt]; exact h
theorem TBlk.set (h : TBlk w g t) (j : Nat) (hj : j < 3) (s : ByteArray) : TBlk (w.setCell ⟨g, j, none⟩ (.string s)) g (upd t j s) := by
  unfold TBlk at *; rw [setCell_eq_setRow w g j _ 66 (0, 0) _ h, setRow_heap w g _ _ 66 _ h]
  match j, hj with
  | 0, _ | 1, _ | 2, _ => simp [upd]
theorem TBlk.other (h : TBlk w g t) (g2 k : Nat) (v : Value) (hne : g2 ≠ g) : TBlk (w.setCell ⟨g2, k, none⟩ v) g t := by
  unfold TBlk at *; rw [Below.heap_setCell _ _ _ _ (fun e => hne e.symm)]; exact h
end

theorem info66 : (Try.prog.info? 66).map (·.size) = some 3 := by kernel_rfl

theorem results_all {fn : Func} {p : Tmp} (h : fn.results = #[.cell p 66]) (tmps : Array Value) (w : World) (g : Nat) (t : Nat → ByteArray)
    (hp : tmps.getD p undef = .pointer (some ⟨g, 0, none⟩)) (hg : TBlk w g t) :
    (results fn tmps).run Try.prog w = .ok (.agg #[.string (t 0), .string (t 1), .string (t 2)]) w := by
  have hp' : tmps[p]?.getD undef = .pointer (some ⟨g, 0, none⟩) := by simpa using hp
  simp [results, h, hp', asAddr, run_loadVar_row (P := Try.prog) w g 66 66 _ (0, 0) _ hg Try.underlying66 rfl info66]

def txt (l : List UInt8) : ByteArray := ⟨l.toArray⟩

def Dsk.val (d : Dsk) : Value := .agg #[.string (txt (d.readB 0)), .string (txt (d.readB 1)), .string (txt (d.readB 2))]

def tz (d : Dsk) (n : Nat) : Nat → ByteArray := fun k => if k < n then txt (d.readB k) else ⟨#[]⟩

theorem tz_succ (d : Dsk) (n : Nat) : tz d (n + 1) = upd (tz d n) n (txt (d.readB n)) := by
  funext k
  unfold upd tz
  by_cases h : k = n
  · subst h; simp
  · rw [if_neg h]
    by_cases h2 : k < n
    · rw [if_pos h2, if_pos (by omega)]
    · rw [if_neg h2, if_neg (by omega)]

set_option maxRecDepth 100000 in
set_option maxHeartbeats 2000000 in
theorem all_any (p : Nat) (x : Dx) (d : Dsk) (w : World) (hi : d.Inv) (h : DIs w p x d) :
    Calls Try.prog 25 #[.pointer (some ⟨p, 0, none⟩)] w fun e w' => e = .returned d.val ∧ Below w.heap.size w w' := by
  go_enter Try.func25, Try.ntmps25
  go_wp2_with fail
  have hb2 := bnext (below_lit w (.cells #[.string ⟨#[]⟩, .string ⟨#[]⟩, .string ⟨#[]⟩] 66)) (below_lit (w.alloc (.cells #[.string ⟨#[]⟩, .string ⟨#[]⟩, .string ⟨#[]⟩] 66)) (.cells #[.string ⟨#[]⟩, .string ⟨#[]⟩, .string ⟨#[]⟩] 66))
  have hz : (w.alloc (.cells #[.string ⟨#[]⟩, .string ⟨#[]⟩, .string ⟨#[]⟩] 66)).heap.size = w.heap.size + 1 := by simp
  have t1 : TBlk ((w.alloc (.cells #[.string ⟨#[]⟩, .string ⟨#[]⟩, .string ⟨#[]⟩] 66)).alloc (.cells #[.string ⟨#[]⟩, .string ⟨#[]⟩, .string ⟨#[]⟩] 66)) (w.heap.size + 1) (tz d 0) := by
    rw [← hz]; exact heap_alloc_new _ _
  have t0 : TBlk ((w.alloc (.cells #[.string ⟨#[]⟩, .string ⟨#[]⟩, .string ⟨#[]⟩] 66)).alloc (.cells #[.string ⟨#[]⟩, .string ⟨#[]⟩, .string ⟨#[]⟩] 66)) w.heap.size (tz d 0) :=
    TBlk.below (w := w.alloc (.cells #[.string ⟨#[]⟩, .string ⟨#[]⟩, .string ⟨#[]⟩] 66)) (heap_alloc_new _ _) (below_lit _ _)
  generalize (w.alloc (.cells #[.string ⟨#[]⟩, .string ⟨#[]⟩, .string ⟨#[]⟩] 66)).alloc (.cells #[.string ⟨#[]⟩, .string ⟨#[]⟩, .string ⟨#[]⟩] 66) = w2 at *
  clear hz
  obtain ⟨g, hg⟩ : ∃ g, g = w.heap.size := ⟨_, rfl⟩
  rw [← hg] at t0 t1
  rw [← hg]
  replace hg := hid hg
  go_loopw [4] (fun i wr => ∃ j : Nat, j ≤ 3 ∧ i = .int .i64 j ∧ TBlk wr (g + 1) (tz d j) ∧ TBlk wr g (tz d 0) ∧ Below w.heap.size w wr) (fun i _ => 3 - (intOf i).toNat)
  case atStart => exact ⟨0, by omega, rfl, t1, t0, hb2⟩
  case round =>
    obtain ⟨j, hj, rfl, q1, q0, hb⟩ := hrel
    by_cases hlt : j < 3
    · have hr := h.1.below hb
      go_wp2_with fail
      refine (read_any p x d j _ hi ⟨hr, h.2⟩).mono ?_
      rintro e w3 ⟨ra, rn, rc, rfl, hrn, ho3, hb3⟩
      have cv := conv_run w3 ra (d.readB j) rn rc hrn.symm ho3.at
      have q13 := q1.below hb3
      have q03 := q0.below hb3
      have y1 := q13.cell j hlt
      have y2 := q13.free j
      have hset := q13.set j hlt (txt (d.readB j))
      rw [← tz_succ] at hset
      have hset0 := q03.other (g + 1) j (.string (txt (d.readB j))) (by omega)
      have hb4 := (bnext hb hb3).setCell (p := ⟨g + 1, j, none⟩) (show w.heap.size ≤ g + 1 by rw [hg.out]; omega) (.string (txt (d.readB j)))
      unfold txt at hset hset0 hb4
      replace hrn := hid hrn
      replace hset := hid hset
      replace hset0 := hid hset0
      replace hb4 := hid hb4
      go_wp2
      go_roundw
      case rel => exact ⟨j + 1, by omega, by go_num, hset.out, hset0.out, hb4.out⟩
      case measure => simp [intOf]; omega
    · obtain rfl : j = 3 := by omega
      have y0 := q1.cell 0 (by omega)
      have y1 := q1.cell 1 (by omega)
      have y2 := q1.cell 2 (by omega)
      have x0 := q0.cell 0 (by omega)
      have x1 := q0.cell 1 (by omega)
      have x2 := q0.cell 2 (by omega)
      have f0 := q0.free 0
      have f1 := q0.free 1
      have f2 := q0.free 2
      have hr := ((q0.set 0 (by omega) (tz d 3 0)).set 1 (by omega) (tz d 3 1)).set 2 (by omega) (tz d 3 2)
      have hg0 := Nat.le_of_eq hg.out.symm
      have hb4 := ((hb.setCell (p := ⟨g, 0, none⟩) hg0 (.string (tz d 3 0))).setCell (p := ⟨g, 1, none⟩) hg0 (.string (tz d 3 1))).setCell (p := ⟨g, 2, none⟩) hg0 (.string (tz d 3 2))
      replace hr := hid hr
      replace hb4 := hid hb4
      go_wp2
      (try simp only [Exit.inBlock, Exit.then])
      refine bodyPost_ret (results_all rfl _ _ g _ rfl hr.out) rfl ?_
      exact ⟨rfl, hb4.out⟩

/-- Nothing is armed, and the power is there. -/
structure Calm (d : Dsk) : Prop where
  down : d.down = false
  arm : d.arm = -1
  fail : d.fail = -1

theorem Calm.errs {d : Dsk} (h : Calm d) : d.errs = 0 := by
  unfold Dsk.errs
  rw [h.down, h.arm, h.fail]
  rfl

theorem Calm.went {d : Dsk} (h : Calm d) : d.went = d := by
  obtain ⟨h1, h2, h3⟩ := h
  unfold Dsk.went
  rw [h1]
  simp only [Bool.false_eq_true, if_false, h2, h3]
  cases d
  simp only at h1 h2 h3
  subst h1; subst h2; subst h3
  rfl

theorem Calm.readB {d : Dsk} (h : Calm d) (i : Nat) (hi : i < 3) : d.readB i = d.cur i := by
  unfold Dsk.readB
  rw [if_neg (by unfold bad; omega), h.down]
  simp

/-- A call of call: a cut or an append. -/
def Done (d d' : Dsk) : Prop := (∃ f n : Nat, f < 3 ∧ n ≤ (d.cur f).length ∧ d' = d.cutD f n) ∨ ∃ (f : Nat) (l : List UInt8), f < 3 ∧ l.length ≤ 50 ∧ d' = d.appD f l

theorem Done.inv {d d' : Dsk} (h : Done d d') (hi : d.Inv) : d'.Inv := by
  rcases h with ⟨f, n, _, _, rfl⟩ | ⟨f, l, _, _, rfl⟩
  · exact hi.cutD _ _
  · exact hi.appD _ _

set_option maxRecDepth 100000 in
set_option maxHeartbeats 2000000 in
theorem call_any (base p : Nat) (x : Dx) (d : Dsk) (n : Nat) (i : Int) (w : World) (hs : Sole base w p x d) (hbase : base ≤ w.heap.size) (hc : Calm d) (hn : d.ops.length ≤ 1000000) (hnn : n ≤ 2000000) (hi0 : 0 ≤ i) (hi1 : i ≤ 1000) :
    Calls Try.prog 26 #[.pointer (some ⟨p, 0, none⟩), .int .i64 (n : Int), .int .i64 i] w fun e w' => e = .returned (.tuple #[]) ∧ ∃ d' x', Done d d' ∧ Sole base w' p x' d' ∧ Grow w p x x' ∧ Kp (Turn p x) w w' := by
  obtain ⟨f0, hf0, hf3⟩ : ∃ f0 : Nat, (n : Int) % 3 = f0 ∧ f0 < 3 := ⟨n % 3, by omega, by omega⟩
  obtain ⟨q0, hq0⟩ : ∃ q0 : Nat, (n : Int) / 12 = q0 := ⟨n / 12, by omega⟩
  have hq1 : q0 ≤ 200000 := by omega
  by_cases h4 : (n : Int) / 3 % 4 = 0
  · have e4 : ((n : Int) / 3 % 4 == 0) = true := by rw [h4]; rfl
    have hsh := hs.inv.curShort f0 hf3
    have rb := hc.readB f0 hf3
    replace hf0 := hid hf0
    replace hq0 := hid hq0
    go_enter Try.func26, Try.ntmps26
    go_wp2_with fail
    rw [hf0.out]
    refine (read_any p x d f0 _ hs.inv hs.is).mono ?_
    rintro e w1 ⟨ra, rn, rc, rfl, hrn, ho1, hb1⟩
    rw [rb] at hrn
    replace rb := hid rb
    have hrl : rn ≤ 1048576 := by omega
    replace hrn := hid hrn
    have s1 := hs.below hb1
    have hpos : ¬ ((rn : Int) + 1 = 0) := by omega
    go_wp2_with fail
    have hm : 0 ≤ (n : Int) / 12 % ((rn : Int) + 1) := Int.emod_nonneg _ hpos
    have hm2 : (n : Int) / 12 % ((rn : Int) + 1) < (rn : Int) + 1 := Int.emod_lt_of_pos _ (by omega)
    obtain ⟨m0, hm0⟩ : ∃ m0 : Nat, (n : Int) / 12 % ((rn : Int) + 1) = m0 := ⟨((n : Int) / 12 % ((rn : Int) + 1)).toNat, by omega⟩
    rw [hm0]
    refine (cut_sole base p x d (d.cutD f0 m0) f0 m0 _ w1 s1 (Nat.le_trans hbase hb1.size) hn rfl rfl).mono ?_
    rintro e w2 ⟨rfl, x2, s2, g2, k2⟩
    have hm3 : m0 ≤ (d.cur f0).length := by have := hrn.out; omega
    clear hm hm2
    replace hm0 := hid hm0
    go_wp2
    (try simp only [Exit.inBlock, Exit.then])
    first | go_end0 | refine bodyPost_ret (results_none rfl _ _ _) rfl ?_
    exact ⟨rfl, _, x2, .inl ⟨f0, m0, hf3, hm3, rfl⟩, s2, (Grow.refl w p x).trans g2 hb1.size, (Kp.of_below hb1).trans k2⟩
  · have e4 : ((n : Int) / 3 % 4 == 0) = false := beq_eq_false_iff_ne.2 h4
    obtain ⟨m0, hm0, hm1⟩ : ∃ m0 : Nat, 1 + (n : Int) / 12 % 50 = m0 ∧ m0 ≤ 50 := ⟨1 + n / 12 % 50, by omega, by omega⟩
    replace hf0 := hid hf0
    replace hq0 := hid hq0
    replace hm0 := hid hm0
    go_enter Try.func26, Try.ntmps26
    go_wp2_with fail
    rw [hm0.out]
    refine (made_any _ m0 _ (by omega)).mono ?_
    rintro e w1 ⟨g, l, rfl, hl, hg, hr, hb1⟩
    rw [hf0.out]
    have s1 := hs.below hb1
    have hlt := fun k e => hs.is.1.turn_lt k e
    have hap := append_sole base p x d (d.appD f0 l) f0 _ (some ⟨g, 0, none⟩) m0 m0 l w1 s1 (Nat.le_trans hbase hb1.size) hn hl (by omega) hr.at (fun ad e ht => by cases e; have := hlt _ ht; simp only at this; omega) rfl rfl
    replace hl := hid hl
    go_wp2_with (go_at_call 10; refine hap.mono ?_; rintro e w2 ⟨rfl, x2, s2, g2, k2⟩)
    (try simp only [Exit.inBlock, Exit.then])
    first | go_end0 | refine bodyPost_ret (results_none rfl _ _ _) rfl ?_
    exact ⟨rfl, _, x2, .inr ⟨f0, l, hf3, by rw [hl.out]; exact hm1, rfl⟩, s2, (Grow.refl w p x).trans g2 hb1.size, (Kp.of_below hb1).trans k2⟩
end Go.Proofs.Ytpngnmogjmdmhaa
