/- Snapshot of a journal. -/
import Derived.Test.YtcbgnodmamcmkaaSnapC
import Derived.Test.YtcbgnodmamcmkaaDrawAll
import Derived.Test.YtcbgnodmamcmkaaVals
namespace Go.Proofs.Ytcbgnodmamcmkaa
open Go.RowKit

theorem kq' {a : Act} {w : World} {K : Act → World → Prop} {d : Option Tmp} {v u : Value} (h : K (a.put d v) w) (e : v = u) : K (a.put d u) w := e ▸ h

/-- One step of a snapshot: a sync, a file's cut, or an append to a file. -/
def Stp : Type := Option (Nat × Option (List UInt8))
def Stp.sy : Stp := none
def Stp.cut (f : Nat) : Stp := some (f, none)
def Stp.app (f : Nat) (bs : List UInt8) : Stp := some (f, some bs)

def Stp.E (s : Stp) (d : Dsk) : Int := match s with
  | none => d.errs
  | some (f, none) => d.cutE f 0
  | some (f, some bs) => d.appE f bs
def Stp.D (s : Stp) (d : Dsk) : Dsk := match s with
  | none => d.syncD
  | some (f, none) => d.cutD f 0
  | some (f, some bs) => d.appD f bs

def stpsE : List Stp → Dsk → Int
  | [], _ => 0
  | s :: r, d => if s.E d = 0 then stpsE r (s.D d) else s.E d
def stpsD : List Stp → Dsk → Dsk
  | [], d => d
  | s :: r, d => if s.E d = 0 then stpsD r (s.D d) else s.D d

def snSteps (to : Nat) (b : List UInt8) : List Stp := [.sy, .cut to, .app to b, .sy, .cut 0, .sy]

def Jr.oth (j : Jr) : Nat := if j.f = 1 then 2 else 1
def Jr.snQ (j : Jr) (body : List UInt8) : Bool := j.b || decide (1048559 < body.length)
def Jr.snE (j : Jr) (body : List UInt8) : Int := if j.b then 4 else if 1048559 < body.length then 3 else stpsE (snSteps j.oth (entB j.l 255 body)) j.d
def Jr.snD (j : Jr) (body : List UInt8) : Dsk := stpsD (snSteps j.oth (entB j.l 255 body)) j.d
def Jr.sn (j : Jr) (body : List UInt8) : Jr := if j.snQ body then j else if j.snE body = 0 then { j with d := j.snD body, f := j.oth, s := j.l } else { j with d := j.snD body, b := true }

theorem Stp.few (s : Stp) (d : Dsk) : (s.D d).ops.length ≤ d.ops.length + 1 := by
  match s with
  | none => have h1 := d.syncD_few; show d.syncD.ops.length ≤ _; omega
  | some (f, none) => exact d.cutD_few _ _
  | some (f, some bs) => exact d.appD_few _ _

theorem size_alloc (w : World) (o : Obj) : (w.alloc o).heap.size = w.heap.size + 1 := by simp
theorem cell_b1 (w : World) (v : Value) (t : Nat) : (w.alloc (.cells #[v] t)).cell? ⟨w.heap.size, 0, none⟩ = some v := by
  obtain ⟨b, o, e, h⟩ := cat_lit w t [v] #[v] rfl (by simp)
  cases e
  exact h 0 (by simp)

/-- The disk behind the first i steps, and what the one behind these answers. -/
def dkL : List Stp → Dsk → Nat → Dsk
  | _, d, 0 => d
  | [], d, _ + 1 => d
  | s :: r, d, i + 1 => dkL r (s.D d) i
def ekL : List Stp → Dsk → Nat → Int
  | [], _, _ => 0
  | s :: _, d, 0 => s.E d
  | s :: r, d, i + 1 => ekL r (s.D d) i

theorem stps_bad : ∀ (S : List Stp) (d : Dsk) (i : Nat), i < S.length → (∀ q, q < i → ekL S d q = 0) → ekL S d i ≠ 0 → stpsE S d = ekL S d i ∧ stpsD S d = dkL S d (i + 1)
  | [], d, i, h, _, _ => by simp at h
  | s :: r, d, 0, _, _, h => by
    have h : s.E d ≠ 0 := h
    simp only [stpsE, stpsD, if_neg h]
    exact ⟨rfl, by cases r <;> rfl⟩
  | s :: r, d, i + 1, hi, hz, h => by
    have h0 : s.E d = 0 := hz 0 (by omega)
    simp only [stpsE, stpsD, if_pos h0]
    exact stps_bad r (s.D d) i (by simpa using hi) (fun q hq => hz (q + 1) (by omega)) h

theorem stps_good : ∀ (S : List Stp) (d : Dsk), (∀ q, q < S.length → ekL S d q = 0) → stpsE S d = 0 ∧ stpsD S d = dkL S d S.length
  | [], d, _ => ⟨rfl, rfl⟩
  | s :: r, d, hz => by
    have h0 : s.E d = 0 := hz 0 (by simp)
    simp only [stpsE, stpsD, if_pos h0]
    exact stps_good r (s.D d) (fun q hq => hz (q + 1) (by simpa using hq))

theorem dkL_few : ∀ (S : List Stp) (d : Dsk) (i : Nat), (dkL S d i).ops.length ≤ d.ops.length + i
  | S, d, 0 => by cases S <;> simp [dkL]
  | [], d, i + 1 => by simp only [dkL]; omega
  | s :: r, d, i + 1 => by
    simp only [dkL]
    have := dkL_few r (s.D d) i
    have := s.few d
    omega

/-- What the parts leave: as they stand in the walk. -/
def SnI (base : Nat) (W wr : World) (p : Nat) (x : Dx) (d : Dsk) : Prop := ∃ x', Sole base wr p x' d ∧ Grow W p x x' ∧ Kp (Turn p x) W wr

theorem SnI.step {base : Nat} {W wr w' : World} {p : Nat} {x x1 x2 : Dx} {d : Dsk} (hg : Grow W p x x1) (hk : Kp (Turn p x) W wr) (hs : Sole base w' p x2 d) (hg2 : Grow wr p x1 x2) (hk2 : Kp (Turn p x1) wr w') : SnI base W w' p x d := by
  have hz := hk.size
  refine ⟨x2, hs, ⟨fun k e => ?_, fun k e => ?_⟩, hk.next hk2 (fun i hi e => ?_)⟩
  · rcases hg2.1 k e with h | h
    · exact hg.1 k h
    · exact .inr (by omega)
  · rcases hg2.2 k e with h | h
    · exact hg.2 k h
    · exact .inr (by omega)
  · rcases hg.1 i e with h | h
    · exact h
    · omega

theorem cell_kp {S : Nat → Prop} {w w' : World} {a : Addr} {v : Value} (hk : Kp S w w') (hn : ¬ S a.block) (h : w.cell? a = some v) : w'.cell? a = some v := by
  rw [World.cell?_of_block (w := w) (a := a) (hk.block a.block (World.block_lt_of_cell? w _ h) hn)]
  exact h

def sv17 (g : Nat) (to l : Nat) : List Value := [.pointer (some ⟨g, 0, none⟩), .pointer (some ⟨g, 0, none⟩), .int .i64 (to : Int), .pointer (some ⟨g, 0, none⟩), .pointer (some ⟨g, 0, none⟩), .pointer (some ⟨g, 1, none⟩), .int .i64 (l : Int), .pointer (some ⟨g, 0, none⟩), .pointer (some ⟨g, 3, none⟩), undef, .pointer (some ⟨g, 0, none⟩), .pointer (some ⟨g, 2, none⟩), undef]

/-- What Snapshot answers and leaves, where it goes on to the disk. -/
def SnPost (base : Nat) (w : World) (g p : Nat) (x : Dx) (S : List Stp) (d : Dsk) (l s f to : Nat) (e : Ending) (w' : World) : Prop :=
  e = .returned (.int .i64 (stpsE S d)) ∧ JNow base w w' g p x (if stpsE S d = 0 then ⟨stpsD S d, l, l, to, false⟩ else ⟨stpsD S d, l, s, f, true⟩)

set_option maxRecDepth 100000 in
set_option maxHeartbeats 8000000 in
theorem snap_go (base g p : Nat) (x : Dx) (d : Dsk) (l s f to : Nat) (a : Option Addr) (len cap : Nat) (body B : List UInt8) (S : List Stp) (w : World) (h : JIs base w g p x ⟨d, l, s, f, false⟩) (hbase : base ≤ w.heap.size) (hn : d.ops.length + 6 ≤ 1000000) (hl : body.length = len) (hlen : len ≤ 1048559) (hat : At w a body)
    (hto : to = if f = 1 then 2 else 1) (hBB : B = entB l 255 body) (hSS : S = snSteps to B) :
    Calls Try.prog 14 #[.pointer (some ⟨g, 0, none⟩), .slice a len cap] w fun e w' => SnPost base w g p x S d l s f to e w' := by
  have hBl : B.length = 17 + len := by rw [hBB, ← hl]; exact entB_len _ _ _
  obtain ⟨gb, hgbe⟩ : ∃ gb, gb = w.heap.size := ⟨_, rfl⟩
  obtain ⟨W1, hW1⟩ : ∃ W1, W1 = w.alloc (.cells #[.pointer (some ⟨g, 0, none⟩)] 31) := ⟨_, rfl⟩
  have b1 : Below w.heap.size w W1 := by rw [hW1]; exact below_lit _ _
  have z1 : W1.heap.size = w.heap.size + 1 := by rw [hW1]; exact size_alloc _ _
  have q1 : W1.cell? ⟨gb, 0, none⟩ = some (.pointer (some ⟨g, 0, none⟩)) := by rw [hW1, hgbe]; exact cell_b1 _ _ _
  have hu := usable_blk g _ _ _ _ _ W1 (h.blk.below b1)
  rw [if_neg (by simp)] at hu
  have ho := other_any (f : Int) W1
  have htoi : (if (f : Int) = 1 then (2 : Int) else 1) = (to : Int) := by
    rw [hto]
    by_cases h1 : f = 1
    · rw [if_pos (by omega), if_pos h1]; rfl
    · rw [if_neg (by omega), if_neg h1]; rfl
  rw [htoi] at ho
  obtain ⟨gt, hgte⟩ : ∃ gt, gt = W1.heap.size := ⟨_, rfl⟩
  obtain ⟨W2, hW2⟩ : ∃ W2, W2 = W1.alloc (.cells #[.int .i64 (to : Int)] 3) := ⟨_, rfl⟩
  have b2 : Below w.heap.size w W2 := bnext b1 (by rw [hW2]; exact below_lit _ _)
  have b12 : Below W1.heap.size W1 W2 := by rw [hW2]; exact below_lit _ _
  have z2 : W2.heap.size = w.heap.size + 2 := by rw [hW2, size_alloc]; omega
  have q2 : W2.cell? ⟨gt, 0, none⟩ = some (.int .i64 (to : Int)) := by rw [hW2, hgte]; exact cell_b1 _ _ _
  have c1 := (h.blk.below b1).c1
  have c3 := (h.blk.below b1).c3
  have c1b := (h.blk.below b2).c1
  have q1b := cell_b b12 q1
  have kE := ent_any l 255 a len cap body W2 h.big hl (by omega) (hat.below b2)
  rw [← hBB, show ((255 : UInt8).toNat : Int) = 255 from rfl] at kE
  have hdl : decide ((1048559 : Int) < (len : Int)) = false := by simp; omega
  have hltg := h.blk.lt
  have htlt := h.disk.is.1.turn_lt
  have hrlt := h.disk.is.1.reads_lt
  replace hBB := hid hBB
  replace hSS := hid hSS
  replace hto := hid hto
  replace htoi := hid htoi
  replace hl := hid hl
  replace hat := hid hat
  replace htlt := hid htlt
  replace hrlt := hid hrlt
  replace z1 := hid z1
  replace z2 := hid z2
  simp only at c1 c3 c1b
  have q1c := q1b
  have c1c := c1b
  rw [hW2] at q1c c1c
  replace hgbe := hid hgbe
  replace hW1 := hid hW1
  replace hgte := hid hgte
  replace hW2 := hid hW2
  go_enter Try.func14, Try.ntmps14
  go_wp2_with fail
  rw [← hgbe.out, ← hW1.out]
  refine hu.mono ?_
  rintro e w0 ⟨rfl, hw0⟩
  rw [hw0]
  clear hw0
  clear w0
  go_wp2_with fail
  refine ho.mono ?_
  rintro e w0 ⟨rfl, hw0⟩
  rw [hw0]
  clear hw0
  clear w0
  go_wp2_with fail
  rw [← hgte.out, ← hW2.out]
  refine kE.mono ?_
  rintro e W3 ⟨gr, rfl, hgr, hrow, hb3⟩
  have b3 := bnext b2 hb3
  have q13 := cell_b hb3 q1b
  have q23 := cell_b hb3 q2
  obtain ⟨gs, hgse⟩ : ∃ gs, gs = W3.heap.size := ⟨_, rfl⟩
  obtain ⟨W4, hW4⟩ : ∃ W4, W4 = W3.alloc (.cells #[.slice (some ⟨gr, 0, none⟩) (17 + len) (17 + len)] 22) := ⟨_, rfl⟩
  have b34 : Below W3.heap.size W3 W4 := by rw [hW4]; exact below_lit _ _
  have q34 : W4.cell? ⟨gs, 0, none⟩ = some (.slice (some ⟨gr, 0, none⟩) (17 + len) (17 + len)) := by rw [hW4, hgse]; exact cell_b1 _ _ _
  obtain ⟨gp, hgpe⟩ : ∃ gp, gp = W4.heap.size := ⟨_, rfl⟩
  obtain ⟨PV, hPV⟩ : ∃ PV : Array Value, PV = #[.func (.func 49) #[] #[.pointer (some ⟨gb, 0, none⟩)], .func (.func 51) #[] #[.pointer (some ⟨gb, 0, none⟩), .pointer (some ⟨gt, 0, none⟩)], .func (.func 53) #[] #[.pointer (some ⟨gb, 0, none⟩), .pointer (some ⟨gt, 0, none⟩), .pointer (some ⟨gs, 0, none⟩)], .func (.func 49) #[] #[.pointer (some ⟨gb, 0, none⟩)], .func (.func 54) #[] #[.pointer (some ⟨gb, 0, none⟩)], .func (.func 49) #[] #[.pointer (some ⟨gb, 0, none⟩)]] := ⟨_, rfl⟩
  obtain ⟨W, hWW⟩ : ∃ W, W = W4.alloc (.cells PV 38) := ⟨_, rfl⟩
  have b45 : Below W4.heap.size W4 W := by rw [hWW]; exact below_lit _ _
  have bW : Below w.heap.size w W := bnext b3 (bnext b34 b45)
  have zW : W.heap.size = W3.heap.size + 2 := by rw [hWW, size_alloc, hW4, size_alloc]
  have hcat : CAt W (some ⟨gp, 0, none⟩) PV.toList := by rw [hWW, hgpe]; exact cat_lit _ _ _ _ (by simp)
  have s1 := cell_b (bnext b34 b45) q13
  have s2 := cell_b (bnext b34 b45) q23
  have s3 := cell_b b45 q34
  have hrowW := hrow.at.below (bnext b34 b45)
  have hzz2 := z2.out
  have hzz3 := hb3.size
  have hnT : ∀ k, w.heap.size ≤ k → ¬ Turn p x k := fun k hk e => by have := htlt.out k e; omega
  have hgt0 : gt = w.heap.size + 1 := by rw [hgte.out]; exact z1.out
  have hg0 : gb ≠ g := by rw [hgbe.out]; omega
  have hg1 : gt ≠ g := by omega
  have JW := h.blk.below bW
  have hgp1 : gs + 1 = gp := by rw [hgpe, hW4, size_alloc, hgse]
  have hgrl : gr < W3.heap.size := World.block_lt_of_cell? W3 _ (hrow.cell 0 (by omega))
  have hgp2 : gp < W.heap.size := by rw [hWW, size_alloc, hgpe]; omega
  have hgs2 : W3.heap.size ≤ gs := by omega
  have hzW := bW.size
  replace hgp1 := hid hgp1
  replace hgt0 := hid hgt0
  replace hgse := hid hgse
  replace hgpe := hid hgpe
  replace hW4 := hid hW4
  replace hWW := hid hWW
  replace hcat := hid hcat
  replace hrowW := hid hrowW
  replace hnT := hid hnT
  replace hrow := hid hrow
  have hPVs := hid hPV
  replace hPV := hid hPV
  have st0 : SnI base W W p x d := ⟨x, h.disk.below bW, ⟨fun _ e => .inl e, fun _ e => .inl e⟩, Kp.refl _ _⟩
  replace st0 := hid st0
  simp only at JW
  clear q1 q1b q2 q13 q23 q34 c1 c1b c3 kE hu ho b12 q1c c1c
  go_wp2_with fail
  rw [← hgse.out, hgp1.out, ← hW4.out, ← hPV.out, ← hWW.out]
  replace hz2 := z2.out
  go_loopw [43] (fun i wr => ∃ q : Nat, q ≤ 6 ∧ i = .int .i64 (q : Int) ∧ Hid ((∀ r, r < q → ekL S d r = 0) ∧ SnI base W wr p x (dkL S d q))) (fun i _ => 6 - (intOf i).toNat)
  case atStart => exact ⟨0, by omega, rfl, hid ⟨fun r hr => by omega, by have := st0.out; rw [hSS.out]; exact this⟩⟩
  case round =>
    obtain ⟨q, hq6, rfl, hin⟩ := hrel
    clear st0
    by_cases hlt : q < 6
    · obtain ⟨hz, x1, hS, hG, hK⟩ := hin.out
      clear hin
      have hb1 := drew_below wr
      have hS1 := hS.below hb1
      have hK1 := hK.then hb1
      have hzr := hK1.size
      have nb : ¬ Turn p x gb := hnT.out gb (by rw [hgbe.out]; omega)
      have nt : ¬ Turn p x gt := hnT.out gt (by rw [hgt0.out]; omega)
      have ns : ¬ Turn p x gs := hnT.out gs (by omega)
      have np : ¬ Turn p x gp := hnT.out gp (by have := hgp1.out; omega)
      have nr : ¬ Turn p x gr := hnT.out gr (by omega)
      have hJ1 := JW.kp hK1 h.sepT
      have hgb1 := cell_kp hK1 nb s1
      have hgt1 := cell_kp hK1 nt s2
      have hgs1 := cell_kp hK1 ns s3
      have hrow1 := hrowW.out.kp hK1 (fun ad e => by cases e; exact nr)
      have hsepR : ∀ ad, (some ⟨gr, 0, none⟩ : Option Addr) = some ad → ¬ Turn p x1 ad.block := fun ad e ht => by
        cases e
        rcases hG.1 gr ht with h1 | h1
        · exact nr h1
        · omega
      have hbase1 : base ≤ wr.drew.heap.size := by omega
      have nb1 : ¬ Turn p x1 gb := fun ht => by
        rcases hG.1 gb ht with h1 | h1
        · exact nb h1
        · have := hgbe.out; omega
      have ng1 : ¬ Turn p x1 g := fun ht => by
        rcases hG.1 g ht with h1 | h1
        · exact h.sepT h1
        · omega
      have hgbr := cell_kp hK nb s1
      have hps := hcat.out
      rw [hPV.out] at hps
      obtain ⟨pb, po, pe, hpc⟩ := hps (by simp)
      cases pe
      have hq : q = 0 ∨ q = 1 ∨ q = 2 ∨ q = 3 ∨ q = 4 ∨ q = 5 := by omega
      rcases hq with rfl | rfl | rfl | rfl | rfl | rfl
      · have hp0 := cell_kp hK np (hpc 0 (by simp))
        have kP := part_sync base gb g p x1 (dkL S d 0) (dkL S d 1) l s f (ekL S d 0) false wr.drew hgb1 hJ1 hS1 hbase1 (Nat.le_trans (dkL_few S d 0) (by omega)) (by rw [hSS.out]; rfl) (by rw [hSS.out]; rfl)
        clear hpc
        have hnext : ∀ (w' : World) (x2 : Dx), Sole base w' p x2 (dkL S d 1) → Grow wr.drew p x1 x2 → Kp (Turn p x1) wr.drew w' → SnI base W w' p x (dkL S d 1) := fun w' x2 h1 h2 h3 => SnI.step hG hK1 h1 h2 h3
        simp only [Nat.zero_add] at hp0
        by_cases hE : ekL S d 0 = 0
        · rw [hE] at kP
          have hz2' : ∀ r, r < 1 → ekL S d r = 0 := fun r hr => by
            rcases Nat.lt_or_ge r 0 with h1 | h1
            · exact hz r h1
            · obtain rfl : r = 0 := by omega
              exact hE
          replace hz2' := hid hz2'
          replace hE := hid hE
          replace hz := hid hz
          replace hnext := hid hnext
          go_wp2_with fail
          go_region_with (first | (go_at_call 49; refine kP.mono ?_; rintro e w1 ⟨rfl, x2, t2, g2, k2⟩; have hgb2 := cell_kp k2 nb1 hgb1) | (go_at_call 47; refine (noted_ok _ _).mono ?_; rintro e w2 ⟨rfl, hw2⟩; subst hw2))
          all_goals (
            go_wp2_with fail
            go_roundw
            case rel => exact ⟨1, by omega, by go_num, hid ⟨hz2'.out, hnext.out _ _ t2 g2 k2⟩⟩
            case measure => simp [intOf])
        · have hbad := stps_bad S d 0 (by rw [hSS.out]; simp [snSteps]) hz hE
          have e1 : (ekL S d 0 != 0) = true := by simpa using hE
          replace hbad := hid hbad
          replace hz := hid hz
          replace hnext := hid hnext
          obtain ⟨EE, hEE⟩ : ∃ EE, EE = ekL S d 0 := ⟨_, rfl⟩
          rw [← hEE] at kP hE e1
          replace hEE := hid hEE
          go_wp2_with fail
          go_region_with (first | (go_at_call 49; refine kP.mono ?_; rintro e w1 ⟨rfl, x2, t2, g2, k2⟩; have hgb2 := cell_kp k2 nb1 hgb1; have hJ2 := hJ1.kp k2 ng1) | (go_at_call 47; refine (noted_err g _ _ _ _ EE _ _ hJ2 hE).mono ?_; rintro e w2 ⟨rfl, hw2⟩; subst hw2))
          all_goals (
            go_wp2
            go_ret
            obtain ⟨x3, t3, g3, k3⟩ := hnext.out _ _ t2 g2 k2
            refine ⟨by rw [hbad.out.1, ← hEE.out]; rfl, ?_⟩
            rw [if_neg (by rw [hbad.out.1, ← hEE.out]; exact hE), hbad.out.2]
            exact h.turn bW t3 g3 k3 (kp_one _ _ _ _) (hJ2.set4 _) h.big)
      · have hp0 := cell_kp hK np (hpc 1 (by simp))
        have kP := part_cut base gb gt g p x1 (dkL S d 1) (dkL S d 2) l s f (to : Int) (ekL S d 1) false wr.drew hgb1 hgt1 hJ1 hS1 hbase1 (Nat.le_trans (dkL_few S d 1) (by omega)) (by rw [hSS.out]; rfl) (by rw [hSS.out]; rfl)
        clear hpc
        have hnext : ∀ (w' : World) (x2 : Dx), Sole base w' p x2 (dkL S d 2) → Grow wr.drew p x1 x2 → Kp (Turn p x1) wr.drew w' → SnI base W w' p x (dkL S d 2) := fun w' x2 h1 h2 h3 => SnI.step hG hK1 h1 h2 h3
        simp only [Nat.zero_add] at hp0
        by_cases hE : ekL S d 1 = 0
        · rw [hE] at kP
          have hz2' : ∀ r, r < 2 → ekL S d r = 0 := fun r hr => by
            rcases Nat.lt_or_ge r 1 with h1 | h1
            · exact hz r h1
            · obtain rfl : r = 1 := by omega
              exact hE
          replace hz2' := hid hz2'
          replace hE := hid hE
          replace hz := hid hz
          replace hnext := hid hnext
          go_wp2_with fail
          go_region_with (first | (go_at_call 51; refine kP.mono ?_; rintro e w1 ⟨rfl, x2, t2, g2, k2⟩; have hgb2 := cell_kp k2 nb1 hgb1) | (go_at_call 47; refine (noted_ok _ _).mono ?_; rintro e w2 ⟨rfl, hw2⟩; subst hw2))
          all_goals (
            go_wp2_with fail
            go_roundw
            case rel => exact ⟨2, by omega, by go_num, hid ⟨hz2'.out, hnext.out _ _ t2 g2 k2⟩⟩
            case measure => simp [intOf])
        · have hbad := stps_bad S d 1 (by rw [hSS.out]; simp [snSteps]) hz hE
          have e1 : (ekL S d 1 != 0) = true := by simpa using hE
          replace hbad := hid hbad
          replace hz := hid hz
          replace hnext := hid hnext
          obtain ⟨EE, hEE⟩ : ∃ EE, EE = ekL S d 1 := ⟨_, rfl⟩
          rw [← hEE] at kP hE e1
          replace hEE := hid hEE
          go_wp2_with fail
          go_region_with (first | (go_at_call 51; refine kP.mono ?_; rintro e w1 ⟨rfl, x2, t2, g2, k2⟩; have hgb2 := cell_kp k2 nb1 hgb1; have hJ2 := hJ1.kp k2 ng1) | (go_at_call 47; refine (noted_err g _ _ _ _ EE _ _ hJ2 hE).mono ?_; rintro e w2 ⟨rfl, hw2⟩; subst hw2))
          all_goals (
            go_wp2
            go_ret
            obtain ⟨x3, t3, g3, k3⟩ := hnext.out _ _ t2 g2 k2
            refine ⟨by rw [hbad.out.1, ← hEE.out]; rfl, ?_⟩
            rw [if_neg (by rw [hbad.out.1, ← hEE.out]; exact hE), hbad.out.2]
            exact h.turn bW t3 g3 k3 (kp_one _ _ _ _) (hJ2.set4 _) h.big)
      · have hp0 := cell_kp hK np (hpc 2 (by simp))
        have kP := part_app base gb gt gs g p x1 (dkL S d 2) (dkL S d 3) l s f (to : Int) (ekL S d 2) false (some ⟨gr, 0, none⟩) (17 + len) (17 + len) B wr.drew hgb1 hgt1 hgs1 hJ1 hS1 hbase1 (Nat.le_trans (dkL_few S d 2) (by omega)) hBl (by omega) hrow1 hsepR (by rw [hSS.out]; rfl) (by rw [hSS.out]; rfl)
        clear hpc
        have hnext : ∀ (w' : World) (x2 : Dx), Sole base w' p x2 (dkL S d 3) → Grow wr.drew p x1 x2 → Kp (Turn p x1) wr.drew w' → SnI base W w' p x (dkL S d 3) := fun w' x2 h1 h2 h3 => SnI.step hG hK1 h1 h2 h3
        simp only [Nat.zero_add] at hp0
        by_cases hE : ekL S d 2 = 0
        · rw [hE] at kP
          have hz2' : ∀ r, r < 3 → ekL S d r = 0 := fun r hr => by
            rcases Nat.lt_or_ge r 2 with h1 | h1
            · exact hz r h1
            · obtain rfl : r = 2 := by omega
              exact hE
          replace hz2' := hid hz2'
          replace hE := hid hE
          replace hz := hid hz
          replace hnext := hid hnext
          go_wp2_with fail
          go_region_with (first | (go_at_call 53; refine kP.mono ?_; rintro e w1 ⟨rfl, x2, t2, g2, k2⟩; have hgb2 := cell_kp k2 nb1 hgb1) | (go_at_call 47; refine (noted_ok _ _).mono ?_; rintro e w2 ⟨rfl, hw2⟩; subst hw2))
          all_goals (
            go_wp2_with fail
            go_roundw
            case rel => exact ⟨3, by omega, by go_num, hid ⟨hz2'.out, hnext.out _ _ t2 g2 k2⟩⟩
            case measure => simp [intOf])
        · have hbad := stps_bad S d 2 (by rw [hSS.out]; simp [snSteps]) hz hE
          have e1 : (ekL S d 2 != 0) = true := by simpa using hE
          replace hbad := hid hbad
          replace hz := hid hz
          replace hnext := hid hnext
          obtain ⟨EE, hEE⟩ : ∃ EE, EE = ekL S d 2 := ⟨_, rfl⟩
          rw [← hEE] at kP hE e1
          replace hEE := hid hEE
          go_wp2_with fail
          go_region_with (first | (go_at_call 53; refine kP.mono ?_; rintro e w1 ⟨rfl, x2, t2, g2, k2⟩; have hgb2 := cell_kp k2 nb1 hgb1; have hJ2 := hJ1.kp k2 ng1) | (go_at_call 47; refine (noted_err g _ _ _ _ EE _ _ hJ2 hE).mono ?_; rintro e w2 ⟨rfl, hw2⟩; subst hw2))
          all_goals (
            go_wp2
            go_ret
            obtain ⟨x3, t3, g3, k3⟩ := hnext.out _ _ t2 g2 k2
            refine ⟨by rw [hbad.out.1, ← hEE.out]; rfl, ?_⟩
            rw [if_neg (by rw [hbad.out.1, ← hEE.out]; exact hE), hbad.out.2]
            exact h.turn bW t3 g3 k3 (kp_one _ _ _ _) (hJ2.set4 _) h.big)
      · have hp0 := cell_kp hK np (hpc 3 (by simp))
        have kP := part_sync base gb g p x1 (dkL S d 3) (dkL S d 4) l s f (ekL S d 3) false wr.drew hgb1 hJ1 hS1 hbase1 (Nat.le_trans (dkL_few S d 3) (by omega)) (by rw [hSS.out]; rfl) (by rw [hSS.out]; rfl)
        clear hpc
        have hnext : ∀ (w' : World) (x2 : Dx), Sole base w' p x2 (dkL S d 4) → Grow wr.drew p x1 x2 → Kp (Turn p x1) wr.drew w' → SnI base W w' p x (dkL S d 4) := fun w' x2 h1 h2 h3 => SnI.step hG hK1 h1 h2 h3
        simp only [Nat.zero_add] at hp0
        by_cases hE : ekL S d 3 = 0
        · rw [hE] at kP
          have hz2' : ∀ r, r < 4 → ekL S d r = 0 := fun r hr => by
            rcases Nat.lt_or_ge r 3 with h1 | h1
            · exact hz r h1
            · obtain rfl : r = 3 := by omega
              exact hE
          replace hz2' := hid hz2'
          replace hE := hid hE
          replace hz := hid hz
          replace hnext := hid hnext
          go_wp2_with fail
          go_region_with (first | (go_at_call 49; refine kP.mono ?_; rintro e w1 ⟨rfl, x2, t2, g2, k2⟩; have hgb2 := cell_kp k2 nb1 hgb1) | (go_at_call 47; refine (noted_ok _ _).mono ?_; rintro e w2 ⟨rfl, hw2⟩; subst hw2))
          all_goals (
            go_wp2_with fail
            go_roundw
            case rel => exact ⟨4, by omega, by go_num, hid ⟨hz2'.out, hnext.out _ _ t2 g2 k2⟩⟩
            case measure => simp [intOf])
        · have hbad := stps_bad S d 3 (by rw [hSS.out]; simp [snSteps]) hz hE
          have e1 : (ekL S d 3 != 0) = true := by simpa using hE
          replace hbad := hid hbad
          replace hz := hid hz
          replace hnext := hid hnext
          obtain ⟨EE, hEE⟩ : ∃ EE, EE = ekL S d 3 := ⟨_, rfl⟩
          rw [← hEE] at kP hE e1
          replace hEE := hid hEE
          go_wp2_with fail
          go_region_with (first | (go_at_call 49; refine kP.mono ?_; rintro e w1 ⟨rfl, x2, t2, g2, k2⟩; have hgb2 := cell_kp k2 nb1 hgb1; have hJ2 := hJ1.kp k2 ng1) | (go_at_call 47; refine (noted_err g _ _ _ _ EE _ _ hJ2 hE).mono ?_; rintro e w2 ⟨rfl, hw2⟩; subst hw2))
          all_goals (
            go_wp2
            go_ret
            obtain ⟨x3, t3, g3, k3⟩ := hnext.out _ _ t2 g2 k2
            refine ⟨by rw [hbad.out.1, ← hEE.out]; rfl, ?_⟩
            rw [if_neg (by rw [hbad.out.1, ← hEE.out]; exact hE), hbad.out.2]
            exact h.turn bW t3 g3 k3 (kp_one _ _ _ _) (hJ2.set4 _) h.big)
      · have hp0 := cell_kp hK np (hpc 4 (by simp))
        have kP := part_cut0 base gb g p x1 (dkL S d 4) (dkL S d 5) l s f (ekL S d 4) false wr.drew hgb1 hJ1 hS1 hbase1 (Nat.le_trans (dkL_few S d 4) (by omega)) (by rw [hSS.out]; rfl) (by rw [hSS.out]; rfl)
        clear hpc
        have hnext : ∀ (w' : World) (x2 : Dx), Sole base w' p x2 (dkL S d 5) → Grow wr.drew p x1 x2 → Kp (Turn p x1) wr.drew w' → SnI base W w' p x (dkL S d 5) := fun w' x2 h1 h2 h3 => SnI.step hG hK1 h1 h2 h3
        simp only [Nat.zero_add] at hp0
        by_cases hE : ekL S d 4 = 0
        · rw [hE] at kP
          have hz2' : ∀ r, r < 5 → ekL S d r = 0 := fun r hr => by
            rcases Nat.lt_or_ge r 4 with h1 | h1
            · exact hz r h1
            · obtain rfl : r = 4 := by omega
              exact hE
          replace hz2' := hid hz2'
          replace hE := hid hE
          replace hz := hid hz
          replace hnext := hid hnext
          go_wp2_with fail
          go_region_with (first | (go_at_call 54; refine kP.mono ?_; rintro e w1 ⟨rfl, x2, t2, g2, k2⟩; have hgb2 := cell_kp k2 nb1 hgb1) | (go_at_call 47; refine (noted_ok _ _).mono ?_; rintro e w2 ⟨rfl, hw2⟩; subst hw2))
          all_goals (
            go_wp2_with fail
            go_roundw
            case rel => exact ⟨5, by omega, by go_num, hid ⟨hz2'.out, hnext.out _ _ t2 g2 k2⟩⟩
            case measure => simp [intOf])
        · have hbad := stps_bad S d 4 (by rw [hSS.out]; simp [snSteps]) hz hE
          have e1 : (ekL S d 4 != 0) = true := by simpa using hE
          replace hbad := hid hbad
          replace hz := hid hz
          replace hnext := hid hnext
          obtain ⟨EE, hEE⟩ : ∃ EE, EE = ekL S d 4 := ⟨_, rfl⟩
          rw [← hEE] at kP hE e1
          replace hEE := hid hEE
          go_wp2_with fail
          go_region_with (first | (go_at_call 54; refine kP.mono ?_; rintro e w1 ⟨rfl, x2, t2, g2, k2⟩; have hgb2 := cell_kp k2 nb1 hgb1; have hJ2 := hJ1.kp k2 ng1) | (go_at_call 47; refine (noted_err g _ _ _ _ EE _ _ hJ2 hE).mono ?_; rintro e w2 ⟨rfl, hw2⟩; subst hw2))
          all_goals (
            go_wp2
            go_ret
            obtain ⟨x3, t3, g3, k3⟩ := hnext.out _ _ t2 g2 k2
            refine ⟨by rw [hbad.out.1, ← hEE.out]; rfl, ?_⟩
            rw [if_neg (by rw [hbad.out.1, ← hEE.out]; exact hE), hbad.out.2]
            exact h.turn bW t3 g3 k3 (kp_one _ _ _ _) (hJ2.set4 _) h.big)
      · have hp0 := cell_kp hK np (hpc 5 (by simp))
        have kP := part_sync base gb g p x1 (dkL S d 5) (dkL S d 6) l s f (ekL S d 5) false wr.drew hgb1 hJ1 hS1 hbase1 (Nat.le_trans (dkL_few S d 5) (by omega)) (by rw [hSS.out]; rfl) (by rw [hSS.out]; rfl)
        clear hpc
        have hnext : ∀ (w' : World) (x2 : Dx), Sole base w' p x2 (dkL S d 6) → Grow wr.drew p x1 x2 → Kp (Turn p x1) wr.drew w' → SnI base W w' p x (dkL S d 6) := fun w' x2 h1 h2 h3 => SnI.step hG hK1 h1 h2 h3
        simp only [Nat.zero_add] at hp0
        by_cases hE : ekL S d 5 = 0
        · rw [hE] at kP
          have hz2' : ∀ r, r < 6 → ekL S d r = 0 := fun r hr => by
            rcases Nat.lt_or_ge r 5 with h1 | h1
            · exact hz r h1
            · obtain rfl : r = 5 := by omega
              exact hE
          replace hz2' := hid hz2'
          replace hE := hid hE
          replace hz := hid hz
          replace hnext := hid hnext
          go_wp2_with fail
          go_region_with (first | (go_at_call 49; refine kP.mono ?_; rintro e w1 ⟨rfl, x2, t2, g2, k2⟩; have hgb2 := cell_kp k2 nb1 hgb1) | (go_at_call 47; refine (noted_ok _ _).mono ?_; rintro e w2 ⟨rfl, hw2⟩; subst hw2))
          all_goals (
            go_wp2_with fail
            go_roundw
            case rel => exact ⟨6, by omega, by go_num, hid ⟨hz2'.out, hnext.out _ _ t2 g2 k2⟩⟩
            case measure => simp [intOf])
        · have hbad := stps_bad S d 5 (by rw [hSS.out]; simp [snSteps]) hz hE
          have e1 : (ekL S d 5 != 0) = true := by simpa using hE
          replace hbad := hid hbad
          replace hz := hid hz
          replace hnext := hid hnext
          obtain ⟨EE, hEE⟩ : ∃ EE, EE = ekL S d 5 := ⟨_, rfl⟩
          rw [← hEE] at kP hE e1
          replace hEE := hid hEE
          go_wp2_with fail
          go_region_with (first | (go_at_call 49; refine kP.mono ?_; rintro e w1 ⟨rfl, x2, t2, g2, k2⟩; have hgb2 := cell_kp k2 nb1 hgb1; have hJ2 := hJ1.kp k2 ng1) | (go_at_call 47; refine (noted_err g _ _ _ _ EE _ _ hJ2 hE).mono ?_; rintro e w2 ⟨rfl, hw2⟩; subst hw2))
          all_goals (
            go_wp2
            go_ret
            obtain ⟨x3, t3, g3, k3⟩ := hnext.out _ _ t2 g2 k2
            refine ⟨by rw [hbad.out.1, ← hEE.out]; rfl, ?_⟩
            rw [if_neg (by rw [hbad.out.1, ← hEE.out]; exact hE), hbad.out.2]
            exact h.turn bW t3 g3 k3 (kp_one _ _ _ _) (hJ2.set4 _) h.big)
    · have hqe : q = 6 := by omega
      subst hqe
      obtain ⟨hz, x1, hS, hG, hK⟩ := hin.out
      clear hin
      have hgood := stps_good S d (by rw [hSS.out]; exact fun r hr => by rw [← hSS.out]; exact hz r hr)
      have hSl : S.length = 6 := by rw [hSS.out]; rfl
      rw [hSl] at hgood
      have nb : ¬ Turn p x gb := hnT.out gb (by rw [hgbe.out]; omega)
      have nt : ¬ Turn p x gt := hnT.out gt (by rw [hgt0.out]; omega)
      have hB := JW.kp hK h.sepT
      have hgb := cell_kp hK nb s1
      have hgt := cell_kp hK nt s2
      have hne1 := hg0
      have hne2 := hg1
      replace hz := hid hz
      replace hgood := hid hgood
      replace hSl := hid hSl
      have hfin : ∀ w', JBlk w' g (some ⟨p, 0, none⟩) l l to false → Kp (fun k => k = g) wr w' → JNow base w w' g p x ⟨dkL S d 6, l, l, to, false⟩ := fun w' h1 h2 => h.turn bW hS hG hK h2 h1 h.big
      replace hfin := hid hfin
      go_wp2_with fail
      refine wp_region_all (Wd := fun L w => JBlk w g (some ⟨p, 0, none⟩) l (if L 12 = true then (l : Int) else s) (if L 9 = true then (to : Int) else f) false ∧ Kp (fun k => k = g) wr w) (Pv := fun i v => v = (sv17 g to l).getD i undef) (by kernel_rfl) (by kernel_rfl) ?_ ?_ ?_
      · intro L hL
        rw [hL 9, hL 12, if_neg (by simp), if_neg (by simp)]
        exact ⟨hB.below (drew_below wr), Kp.of_below (drew_below wr)⟩
      · refine ⟨?_, ?_, ?_, ?_, ?_, ?_, ?_, ?_, ?_, ?_, ?_, ?_, ?_, trivial⟩
        · intro ac w L hL hup hW hd hk K hK
          have e2 : ac.tmps[2]?.getD undef = (.pointer (some ⟨gb, 0, none⟩) : Value) := slot (get_keep (hk 2 (no_dst (by kernel_rfl))) rfl)
          have y0 := cell_kp hW.2 hne1 hgb
          refine yes (want_n rfl) ?_
          have hv := hid (hK (.pointer (some ⟨g, 0, none⟩)) w (fun _ => rfl) (fun L' h1 h3 => by dsimp only; rw [h3 9 (by decide), h3 12 (by decide)]; exact hW))
          clear hK hW hL hup hd hk
          go_simp
          exact kq' hv.out rfl
        · intro ac w L hL hup hW hd hk K hK
          have e2 : ac.tmps[2]?.getD undef = (.pointer (some ⟨gb, 0, none⟩) : Value) := slot (get_keep (hk 2 (no_dst (by kernel_rfl))) rfl)
          have y0 := cell_kp hW.2 hne1 hgb
          refine yes (want_n rfl) ?_
          have hv := hid (hK (.pointer (some ⟨g, 0, none⟩)) w (fun _ => rfl) (fun L' h1 h3 => by dsimp only; rw [h3 9 (by decide), h3 12 (by decide)]; exact hW))
          clear hK hW hL hup hd hk
          go_simp
          exact kq' hv.out rfl
        · intro ac w L hL hup hW hd hk K hK
          have e6 : ac.tmps[6]?.getD undef = (.pointer (some ⟨gt, 0, none⟩) : Value) := slot (get_keep (hk 6 (no_dst (by kernel_rfl))) rfl)
          have y0 := cell_kp hW.2 hne2 hgt
          refine yes (want_n rfl) ?_
          have hv := hid (hK (.int .i64 (to : Int)) w (fun _ => rfl) (fun L' h1 h3 => by dsimp only; rw [h3 9 (by decide), h3 12 (by decide)]; exact hW))
          clear hK hW hL hup hd hk
          go_simp
          exact kq' hv.out rfl
        · intro ac w L hL hup hW hd hk K hK
          have e2 : ac.tmps[2]?.getD undef = (.pointer (some ⟨gb, 0, none⟩) : Value) := slot (get_keep (hk 2 (no_dst (by kernel_rfl))) rfl)
          have y0 := cell_kp hW.2 hne1 hgb
          refine yes (want_n rfl) ?_
          have hv := hid (hK (.pointer (some ⟨g, 0, none⟩)) w (fun _ => rfl) (fun L' h1 h3 => by dsimp only; rw [h3 9 (by decide), h3 12 (by decide)]; exact hW))
          clear hK hW hL hup hd hk
          go_simp
          exact kq' hv.out rfl
        · intro ac w L hL hup hW hd hk K hK
          have e58 : ac.tmps[58]?.getD undef = (.pointer (some ⟨g, 0, none⟩) : Value) := slot (hd 3 _ 58 rfl rfl rfl)
          refine yes (want_n rfl) ?_
          have hv := hid (hK (.pointer (some ⟨g, 0, none⟩)) w (fun _ => rfl) (fun L' h1 h3 => by dsimp only; rw [h3 9 (by decide), h3 12 (by decide)]; exact hW))
          clear hK hW hL hup hd hk
          go_simp
          exact kq' hv.out rfl
        · intro ac w L hL hup hW hd hk K hK
          have e59 : ac.tmps[59]?.getD undef = (.pointer (some ⟨g, 0, none⟩) : Value) := slot (hd 4 _ 59 rfl rfl rfl)
          refine yes (want_n rfl) ?_
          have hv := hid (hK (.pointer (some ⟨g, 1, none⟩)) w (fun _ => rfl) (fun L' h1 h3 => by dsimp only; rw [h3 9 (by decide), h3 12 (by decide)]; exact hW))
          clear hK hW hL hup hd hk
          go_simp
          exact kq' hv.out rfl
        · intro ac w L hL hup hW hd hk K hK
          have e60 : ac.tmps[60]?.getD undef = (.pointer (some ⟨g, 1, none⟩) : Value) := slot (hd 5 _ 60 rfl rfl rfl)
          have y0 := hW.1.c1
          refine yes (want_n rfl) ?_
          have hv := hid (hK (.int .i64 (l : Int)) w (fun _ => rfl) (fun L' h1 h3 => by dsimp only; rw [h3 9 (by decide), h3 12 (by decide)]; exact hW))
          clear hK hW hL hup hd hk
          go_simp
          exact kq' hv.out rfl
        · intro ac w L hL hup hW hd hk K hK
          have e55 : ac.tmps[55]?.getD undef = (.pointer (some ⟨g, 0, none⟩) : Value) := slot (hd 0 _ 55 rfl rfl rfl)
          refine yes (want_n rfl) ?_
          have hv := hid (hK (.pointer (some ⟨g, 0, none⟩)) w (fun _ => rfl) (fun L' h1 h3 => by dsimp only; rw [h3 9 (by decide), h3 12 (by decide)]; exact hW))
          clear hK hW hL hup hd hk
          go_simp
          exact kq' hv.out rfl
        · intro ac w L hL hup hW hd hk K hK
          have e62 : ac.tmps[62]?.getD undef = (.pointer (some ⟨g, 0, none⟩) : Value) := slot (hd 7 _ 62 rfl rfl rfl)
          refine yes (want_n rfl) ?_
          have hv := hid (hK (.pointer (some ⟨g, 3, none⟩)) w (fun _ => rfl) (fun L' h1 h3 => by dsimp only; rw [h3 9 (by decide), h3 12 (by decide)]; exact hW))
          clear hK hW hL hup hd hk
          go_simp
          exact kq' hv.out rfl
        · intro ac w L hL hup hW hd hk K hK
          have e63 : ac.tmps[63]?.getD undef = (.pointer (some ⟨g, 3, none⟩) : Value) := slot (hd 8 _ 63 rfl rfl rfl)
          have e57 : ac.tmps[57]?.getD undef = (.int .i64 (to : Int) : Value) := slot (hd 2 _ 57 rfl rfl rfl)
          have y0 := hW.1.c3
          have y1 := hW.1.free 3
          have hset := hW.1.set3 (to : Int)
          refine yes (want_n rfl) ?_
          have hv := hid (fun v => hK v (w.setCell ⟨g, 3, none⟩ (.int .i64 (to : Int))) (fun h => absurd rfl h) (fun L' h1 h3 => by dsimp only; rw [h3 12 (by decide), h1, if_pos rfl]; exact ⟨hset, hW.2.trans (kp_one _ _ _ _)⟩))
          replace hset := hid hset
          clear hK hW hL hup hd hk
          go_simp
          exact hv.out undef
        · intro ac w L hL hup hW hd hk K hK
          have e56 : ac.tmps[56]?.getD undef = (.pointer (some ⟨g, 0, none⟩) : Value) := slot (hd 1 _ 56 rfl rfl rfl)
          refine yes (want_n rfl) ?_
          have hv := hid (hK (.pointer (some ⟨g, 0, none⟩)) w (fun _ => rfl) (fun L' h1 h3 => by dsimp only; rw [h3 9 (by decide), h3 12 (by decide)]; exact hW))
          clear hK hW hL hup hd hk
          go_simp
          exact kq' hv.out rfl
        · intro ac w L hL hup hW hd hk K hK
          have e64 : ac.tmps[64]?.getD undef = (.pointer (some ⟨g, 0, none⟩) : Value) := slot (hd 10 _ 64 rfl rfl rfl)
          refine yes (want_n rfl) ?_
          have hv := hid (hK (.pointer (some ⟨g, 2, none⟩)) w (fun _ => rfl) (fun L' h1 h3 => by dsimp only; rw [h3 9 (by decide), h3 12 (by decide)]; exact hW))
          clear hK hW hL hup hd hk
          go_simp
          exact kq' hv.out rfl
        · intro ac w L hL hup hW hd hk K hK
          have e65 : ac.tmps[65]?.getD undef = (.pointer (some ⟨g, 2, none⟩) : Value) := slot (hd 11 _ 65 rfl rfl rfl)
          have e61 : ac.tmps[61]?.getD undef = (.int .i64 (l : Int) : Value) := slot (hd 6 _ 61 rfl rfl rfl)
          have y0 := hW.1.c2
          have y1 := hW.1.free 2
          have hset := hW.1.set2 (l : Int)
          refine yes (want_n rfl) ?_
          have hv := hid (fun v => hK v (w.setCell ⟨g, 2, none⟩ (.int .i64 (l : Int))) (fun h => absurd rfl h) (fun L' h1 h3 => by dsimp only; rw [h3 9 (by decide), h1, if_pos rfl]; exact ⟨hset, hW.2.trans (kp_one _ _ _ _)⟩))
          replace hset := hid hset
          clear hK hW hL hup hd hk
          go_simp
          exact hv.out undef
      · intro ac w1 hdf hsz hkp hval hW
        obtain ⟨L, hall, hJ, hK2⟩ := hW
        rw [hall 9 (by decide), hall 12 (by decide), if_pos rfl, if_pos rfl] at hJ
        obtain ⟨ff, hf⟩ : ∃ ff, ff = fun d => ac.tmps.getD d undef := ⟨_, rfl⟩
        have hfa := act_filled hdf hsz hkp
        rw [← hf] at hfa
        rw [hfa]
        clear hdf hsz hkp hval hfa hf
        clear ac
        simp only [fillAll, List.set_cons_zero, List.set_cons_succ]
        go_wp2
        go_ret
        refine ⟨by rw [hgood.out.1]; rfl, ?_⟩
        rw [if_pos hgood.out.1, hgood.out.2]
        exact hfin.out _ hJ hK2


end Go.Proofs.Ytcbgnodmamcmkaa
