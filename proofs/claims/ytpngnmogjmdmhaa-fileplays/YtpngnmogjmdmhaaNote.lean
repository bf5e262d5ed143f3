/- A disk in memory; what note does. -/
import Derived.Test.YtpngnmogjmdmhaaCat
import Derived.Deep.QuietTactic
import Derived.BigQuiet
namespace Go.Proofs.Ytpngnmogjmdmhaa
open Go.RowKit

/-- Where a disk's parts lie. -/
structure Dx where
  F : Nat → Value
  u : Value
  its : List CIt

def Dsk.six (d : Dsk) : Fs := fun j => if j % 2 = 0 then d.dur (j / 2) else d.cur (j / 2)

/-- The blocks that calls of a disk may turn. -/
def Turn (p : Nat) (x : Dx) (k : Nat) : Prop := k = p ∨ (∃ j, j < 6 ∧ (x.F j).ownBlock = some k) ∨ x.u.ownBlock = some k

/-- The blocks that a disk only reads. -/
def Reads (x : Dx) (k : Nat) : Prop := ∃ i ∈ x.its, ∃ ad, i.a = some ad ∧ ad.block = k

structure SixAt (w : World) (F : Nat → Value) (f : Fs) : Prop where
  own : ∀ j, j < 6 → Own w 0 (F j) (f j)
  apart : ∀ i j, i < 6 → j < 6 → i ≠ j → ∀ k, (F i).ownBlock = some k → (F j).ownBlock ≠ some k

def AddAt (w : World) (i : CIt) : Prop := (At w i.a i.c.data ∧ i.c.data.length ≤ i.cap) ∧ ∀ ad, i.a = some ad → ad.block < w.heap.size

def Row4 (w : World) (v : Value) (its : List CIt) : Prop := w.ownsRow 0 79 4 v its.length (its.flatMap CIt.cells)

/-- A disk in memory: what its six slices hold is f. -/
structure DAt (w : World) (p : Nat) (x : Dx) (f : Fs) (dn : Bool) (arm fail fault : Int) : Prop where
  blk : DBlk w p true dn x.F x.u arm fail fault
  six : SixAt w x.F f
  row : Row4 w x.u x.its
  adds : ∀ i ∈ x.its, AddAt w i
  sep : ∀ k, Reads x k → ¬ Turn p x k

/-- The disk d in memory. -/
def DIs (w : World) (p : Nat) (x : Dx) (d : Dsk) : Prop := DAt w p x d.six d.down d.arm d.fail d.fault ∧ chs x.its = d.ops

/-- What may be turned later is what may be turned now, or new. -/
def Grow (w : World) (p : Nat) (x x' : Dx) : Prop := (∀ k, Turn p x' k → Turn p x k ∨ w.heap.size ≤ k) ∧ ∀ k, Reads x' k → Reads x k ∨ w.heap.size ≤ k

theorem AddAt.kp {S : Nat → Prop} {w w' : World} {i : CIt} (h : AddAt w i) (hk : Kp S w w') (hn : ∀ ad, i.a = some ad → ¬ S ad.block) : AddAt w' i :=
  ⟨⟨h.1.1.kp hk hn, h.1.2⟩, fun ad e => Nat.lt_of_lt_of_le (h.2 ad e) hk.size⟩

theorem SixAt.kp {S : Nat → Prop} {w w' : World} {F : Nat → Value} {f : Fs} (h : SixAt w F f) (hk : Kp S w w') (hn : ∀ j, j < 6 → ∀ k, (F j).ownBlock = some k → ¬ S k) : SixAt w' F f :=
  ⟨fun j hj => (h.own j hj).kp hk (hn j hj), h.apart⟩

theorem DAt.kp {S : Nat → Prop} {w w' : World} {p : Nat} {x : Dx} {f : Fs} {dn : Bool} {arm fail fault : Int} (h : DAt w p x f dn arm fail fault) (hk : Kp S w w') (ht : ∀ k, Turn p x k → ¬ S k) (hr : ∀ k, Reads x k → ¬ S k) : DAt w' p x f dn arm fail fault :=
  ⟨h.blk.kp hk (ht p (.inl rfl)), h.six.kp hk (fun j hj k e => ht k (.inr (.inl ⟨j, hj, e⟩))), owns_kp h.row hk (fun k e => ht k (.inr (.inr e))), fun i hi => (h.adds i hi).kp hk (fun ad e => hr _ ⟨i, hi, ad, e, rfl⟩), h.sep⟩

theorem DAt.below {w w' : World} {p : Nat} {x : Dx} {f : Fs} {dn : Bool} {arm fail fault : Int} (h : DAt w p x f dn arm fail fault) (hb : Below w.heap.size w w') : DAt w' p x f dn arm fail fault := h.kp (S := fun _ => False) (Kp.of_below hb) (fun _ _ h => h) (fun _ _ h => h)

theorem DAt.turn_lt {w : World} {p : Nat} {x : Dx} {f : Fs} {dn : Bool} {arm fail fault : Int} (h : DAt w p x f dn arm fail fault) : ∀ k, Turn p x k → k < w.heap.size := by
  rintro k (rfl | ⟨j, hj, e⟩ | e)
  · exact h.blk.lt
  · exact ((h.six.own j hj).lt k e).2
  · exact (World.ownsRow.lt h.row k e).2

theorem DAt.reads_lt {w : World} {p : Nat} {x : Dx} {f : Fs} {dn : Bool} {arm fail fault : Int} (h : DAt w p x f dn arm fail fault) : ∀ k, Reads x k → k < w.heap.size := by
  rintro k ⟨i, hi, ad, e, rfl⟩
  exact (h.adds i hi).2 ad e

/-- A row of bytes is no row of changes and no disk's block. -/
theorem own_row {w : World} {v u : Value} {l : List UInt8} {its : List CIt} (h : Own w 0 v l) (hr : Row4 w u its) : ∀ k, v.ownBlock = some k → u.ownBlock ≠ some k := by
  intro k hk e
  rcases h.2 with ⟨rfl, _⟩ | ⟨g, cap, cur, rfl, _, hg, _⟩
  · cases hk
  · rcases hr.2 with ⟨rfl, _⟩ | ⟨g', cap', cur', rfl, _, hg', _⟩
    · cases e
    · simp [Value.ownBlock] at hk e
      subst hk
      subst e
      rw [hg] at hg'
      simp at hg'

theorem DBlk.ne_own {w : World} {p base : Nat} {mk dn : Bool} {F : Nat → Value} {u v : Value} {a b e : Int} {l : List UInt8} (h : DBlk w p mk dn F u a b e) (ho : Own w base v l) : ∀ k, v.ownBlock = some k → k ≠ p := by
  intro k hk e
  subst e
  rcases ho.2 with ⟨rfl, _⟩ | ⟨g, cap, cur, rfl, _, hg, _⟩
  · cases hk
  · simp [Value.ownBlock] at hk
    subst hk
    unfold DBlk at h
    rw [h] at hg
    simp at hg

theorem DBlk.ne_row {w : World} {p : Nat} {mk dn : Bool} {F : Nat → Value} {u v : Value} {a b e : Int} {its : List CIt} (h : DBlk w p mk dn F u a b e) (ho : Row4 w v its) : ∀ k, v.ownBlock = some k → k ≠ p := by
  intro k hk e
  subst e
  rcases ho.2 with ⟨rfl, _⟩ | ⟨g, cap, cur, rfl, _, hg, _⟩
  · cases hk
  · simp [Value.ownBlock] at hk
    subst hk
    unfold DBlk at h
    rw [h] at hg
    simp at hg

/-- A change in a block of its own. -/
def CBlk (w : World) (g : Nat) (i : CIt) : Prop := w.heap[g]? = some (.cells #[.int .i64 (i.c.file : Int), .bool i.c.app, i.val, .int .i64 (i.c.left : Int)] 79 (0, 0))
section
variable {w : World} {g : Nat} {i : CIt}
theorem CBlk.c0 (h : CBlk w g i) : w.cell? ⟨g, 0, none⟩ = some (.int .i64 (i.c.file : Int)) := by unfold CBlk at h; simp [World.cell?, h]
theorem CBlk.c1 (h : CBlk w g i) : w.cell? ⟨g, 1, none⟩ = some (.bool i.c.app) := by unfold CBlk at h; simp [World.cell?, h]
theorem CBlk.c2 (h : CBlk w g i) : w.cell? ⟨g, 2, none⟩ = some i.val := by unfold CBlk at h; simp [World.cell?, h]
theorem CBlk.c3 (h : CBlk w g i) : w.cell? ⟨g, 3, none⟩ = some (.int .i64 (i.c.left : Int)) := by unfold CBlk at h; simp [World.cell?, h]
theorem CBlk.free (h : CBlk w g i) (k : Nat) : w.frozen? ⟨g, k, none⟩ = false := by unfold CBlk at h; simp [World.frozen?, h]
theorem CBlk.lt (h : CBlk w g i) : g < w.heap.size := (Array.getElem?_eq_some_iff.1 h).1
theorem CBlk.kp {S : Nat → Prop} {w' : World} (h : CBlk w g i) (hk : Kp S w w') (hn : ¬ S g) : CBlk w' g i := by
  unfold CBlk; rw [hk.block g h.lt hn]; exact h
end


def upd {α : Type} (F : Nat → α) (j : Nat) (v : α) : Nat → α := fun i => if i = j then v else F i
theorem upd_same {α : Type} (F : Nat → α) (j : Nat) (v : α) : upd F j v j = v := by simp [upd]
theorem upd_ne {α : Type} (F : Nat → α) (j i : Nat) (v : α) (h : i ≠ j) : upd F j v i = F i := by simp [upd, h]

theorem drew_below (w : World) : Below w.heap.size w w.drew := (Below.refl _ _).drew

/-- One of the six slices becomes v': its own row, or a new one. -/
theorem slot_step {w0 w1 : World} {p : Nat} {x : Dx} {f : Fs} {dn : Bool} {arm fail fault : Int} (h : DAt w0 p x f dn arm fail fault) (j : Nat) (hj : j < 6) {v v' : Value} {l' : List UInt8} (hv : x.F j = v)
    (hk1 : Kp (fun k => v.ownBlock = some k) w0 w1) (hn1 : ∀ k, v'.ownBlock = some k → v.ownBlock = some k ∨ w0.heap.size ≤ k) (ho1 : Own w1 0 v' l') :
    DAt (w1.setCell ⟨p, 2 + j, none⟩ v') p ⟨upd x.F j v', x.u, x.its⟩ (upd f j l') dn arm fail fault ∧ (∀ k, Turn p ⟨upd x.F j v', x.u, x.its⟩ k → Turn p x k ∨ w0.heap.size ≤ k) ∧ Kp (Turn p x) w0 (w1.setCell ⟨p, 2 + j, none⟩ v') := by
  subst hv
  have hT : ∀ k, (x.F j).ownBlock = some k → Turn p x k := fun k e => .inr (.inl ⟨j, hj, e⟩)
  have hpn : ¬ (x.F j).ownBlock = some p := fun e => h.blk.ne_own (h.six.own j hj) p e rfl
  have hB1 := h.blk.kp hk1 hpn
  have hset : Kp (fun k => k = p) w1 (w1.setCell ⟨p, 2 + j, none⟩ v') := Kp.setCell (S := fun k => k = p) (p := ⟨p, 2 + j, none⟩) (Kp.refl _ _) rfl _
  have hlt := h.blk.lt
  have hTk : Kp (Turn p x) w0 (w1.setCell ⟨p, 2 + j, none⟩ v') := (hk1.mono (fun k _ e => hT k e)).trans (hset.mono (fun k _ e => .inl e))
  have hturn : ∀ k, Turn p ⟨upd x.F j v', x.u, x.its⟩ k → Turn p x k ∨ w0.heap.size ≤ k := by
    rintro k (e | ⟨i, hi, e⟩ | e)
    · exact .inl (.inl e)
    · by_cases hij : i = j
      · subst hij
        change (upd x.F i v' i).ownBlock = some k at e
        rw [upd_same] at e
        rcases hn1 k e with h1 | h1
        · exact .inl (hT k h1)
        · exact .inr h1
      · change (upd x.F j v' i).ownBlock = some k at e
        rw [upd_ne _ _ _ _ hij] at e
        exact .inl (.inr (.inl ⟨i, hi, e⟩))
    · exact .inl (.inr (.inr e))
  refine ⟨⟨hB1.setF j hj v', ⟨?_, ?_⟩, ?_, ?_, ?_⟩, hturn, hTk⟩
  · intro i hi
    by_cases hij : i = j
    · subst hij
      show Own _ 0 (upd x.F i v' i) (upd f i l' i)
      rw [upd_same, upd_same]
      refine ho1.kp hset (fun k e => ?_)
      exact hB1.ne_own ho1 k e
    · show Own _ 0 (upd x.F j v' i) (upd f j l' i)
      rw [upd_ne _ _ _ _ hij, upd_ne _ _ _ _ hij]
      have h2 := (h.six.own i hi).kp hk1 (fun k e1 e2 => h.six.apart i j hi hj hij k e1 e2)
      exact h2.kp hset (fun k e => h.blk.ne_own (h.six.own i hi) k e)
  · intro i i2 hi hi2 hne k e1 e2
    show False
    have hold : ∀ m, m < 6 → m ≠ j → ∀ k, (x.F m).ownBlock = some k → ¬ v'.ownBlock = some k := by
      intro m hm hmj k e3 e4
      rcases hn1 k e4 with h1 | h1
      · exact h.six.apart m j hm hj hmj k e3 h1
      · have := ((h.six.own m hm).lt k e3).2; omega
    by_cases hij : i = j
    · have hi2j : i2 ≠ j := fun e => hne (hij.trans e.symm)
      rw [hij] at e1
      have e1' : v'.ownBlock = some k := by rw [← upd_same x.F j v']; exact e1
      have e2' : (x.F i2).ownBlock = some k := by rw [← upd_ne x.F j i2 v' hi2j]; exact e2
      exact hold i2 hi2 hi2j k e2' e1'
    · have e1' : (x.F i).ownBlock = some k := by rw [← upd_ne x.F j i v' hij]; exact e1
      by_cases hi2j : i2 = j
      · rw [hi2j] at e2
        have e2' : v'.ownBlock = some k := by rw [← upd_same x.F j v']; exact e2
        exact hold i hi hij k e1' e2'
      · have e2' : (x.F i2).ownBlock = some k := by rw [← upd_ne x.F j i2 v' hi2j]; exact e2
        exact h.six.apart i i2 hi hi2 hne k e1' e2'
  · exact owns_kp (owns_kp h.row hk1 (fun k e1 e2 => own_row (h.six.own j hj) h.row k e2 e1)) hset (fun k e => h.blk.ne_row h.row k e)
  · intro i hi
    exact (h.adds i hi).kp hTk (fun ad e => h.sep _ ⟨i, hi, ad, e, rfl⟩)
  · rintro k ⟨i, hi, ad, e, rfl⟩ ht
    rcases hturn _ ht with h1 | h1
    · exact h.sep _ ⟨i, hi, ad, e, rfl⟩ h1
    · have := (h.adds i hi).2 ad e; omega

/-- The unsynced ones become v': their own row, or a new one. -/
theorem row_step {w0 w1 : World} {p : Nat} {x : Dx} {f : Fs} {dn : Bool} {arm fail fault : Int} (h : DAt w0 p x f dn arm fail fault) {v' : Value} {its' : List CIt}
    (hk1 : Kp (fun k => x.u.ownBlock = some k) w0 w1) (hn1 : ∀ k, v'.ownBlock = some k → x.u.ownBlock = some k ∨ w0.heap.size ≤ k) (hr : Row4 w1 v' its')
    (hadds : ∀ i ∈ its', AddAt w0 i) (hsep : ∀ i ∈ its', ∀ ad, i.a = some ad → ¬ Turn p x ad.block) :
    DAt (w1.setCell ⟨p, 8, none⟩ v') p ⟨x.F, v', its'⟩ f dn arm fail fault ∧ (∀ k, Turn p ⟨x.F, v', its'⟩ k → Turn p x k ∨ w0.heap.size ≤ k) ∧ Kp (Turn p x) w0 (w1.setCell ⟨p, 8, none⟩ v') := by
  have hT : ∀ k, x.u.ownBlock = some k → Turn p x k := fun k e => .inr (.inr e)
  have hpn : ¬ x.u.ownBlock = some p := fun e => h.blk.ne_row h.row p e rfl
  have hB1 := h.blk.kp hk1 hpn
  have hset : Kp (fun k => k = p) w1 (w1.setCell ⟨p, 8, none⟩ v') := Kp.setCell (S := fun k => k = p) (p := ⟨p, 8, none⟩) (Kp.refl _ _) rfl _
  have hTk : Kp (Turn p x) w0 (w1.setCell ⟨p, 8, none⟩ v') := (hk1.mono (fun k _ e => hT k e)).trans (hset.mono (fun k _ e => .inl e))
  have hturn : ∀ k, Turn p ⟨x.F, v', its'⟩ k → Turn p x k ∨ w0.heap.size ≤ k := by
    rintro k (e | e | e)
    · exact .inl (.inl e)
    · exact .inl (.inr (.inl e))
    · rcases hn1 k e with h1 | h1
      · exact .inl (hT k h1)
      · exact .inr h1
  refine ⟨⟨hB1.set8 v', ?_, owns_kp hr hset (fun k e => hB1.ne_row hr k e), ?_, ?_⟩, hturn, hTk⟩
  · exact (h.six.kp hk1 (fun j hj k e1 e2 => own_row (h.six.own j hj) h.row k e1 e2)).kp hset (fun j hj k e => h.blk.ne_own (h.six.own j hj) k e)
  · intro i hi
    exact (hadds i hi).kp hTk (hsep i hi)
  · rintro k ⟨i, hi, ad, e, rfl⟩ ht
    rcases hturn _ ht with h1 | h1
    · exact hsep i hi ad e h1
    · have := (hadds i hi).2 ad e; omega

theorem Dsk.six_cur (d : Dsk) (i : Nat) : d.six (2 * i + 1) = d.cur i := by
  unfold Dsk.six
  rw [if_neg (by omega), show (2 * i + 1) / 2 = i by omega]
theorem Dsk.six_dur (d : Dsk) (i : Nat) : d.six (2 * i) = d.dur i := by
  unfold Dsk.six
  rw [if_pos (by omega), show (2 * i) / 2 = i by omega]

theorem note_six (d : Dsk) (c : Ch) : (d.note c).six = upd d.six (2 * c.file + 1) (c.on (d.cur c.file)) := by
  funext j
  unfold upd
  by_cases hj : j = 2 * c.file + 1
  · subst hj
    rw [if_pos rfl, Dsk.six_cur]
    simp [Dsk.note, apply]
  · rw [if_neg hj]
    unfold Dsk.six Dsk.note apply
    simp only
    by_cases h2 : j % 2 = 0
    · rw [if_pos h2, if_pos h2]
    · rw [if_neg h2, if_neg h2, if_neg (by omega)]

theorem info79 : (Try.prog.info? 79).map (fun i => (i.zero, i.size, i.bytes)) = some (some (.agg #[.int .i64 0, .bool false, .slice none 0 0, .int .i64 0]), 4, 48) := by kernel_rfl

set_option maxRecDepth 100000 in
set_option maxHeartbeats 4000000 in
theorem note_any (p : Nat) (x : Dx) (d : Dsk) (i : CIt) (w : World) (h : DIs w p x d) (hi : AddAt w i) (hsep : ∀ ad, i.a = some ad → ¬ Turn p x ad.block) (hf : i.c.file < 3)
    (hcut : i.c.app = false → i.c.left ≤ (d.cur i.c.file).length) (hlen : (i.c.on (d.cur i.c.file)).length ≤ 1048576) (hn : d.ops.length ≤ 1000000) :
    Calls Try.prog 33 #[.pointer (some ⟨p, 0, none⟩), i.agg] w fun e w' => e = .returned (.tuple #[]) ∧ ∃ x', DIs w' p x' (d.note i.c) ∧ (∀ k, Turn p x' k → Turn p x k ∨ w.heap.size ≤ k) ∧ x'.its = x.its ++ [i] ∧ Kp (Turn p x) w w' := by
  have hg : CBlk (w.alloc (.cells #[.int .i64 (i.c.file : Int), .bool i.c.app, i.val, .int .i64 (i.c.left : Int)] 79)) w.heap.size i := heap_alloc_new w _
  have hb0 := below_lit w (.cells #[.int .i64 (i.c.file : Int), .bool i.c.app, i.val, .int .i64 (i.c.left : Int)] 79)
  unfold CIt.agg
  have c0 := hg.c0
  obtain ⟨a, cap, hv, hcap, hat⟩ := (h.1.six.own (2 * i.c.file + 1) (by omega)).form
  have h6 := d.six_cur i.c.file
  rw [h6] at hv hcap hat
  go_enter Try.func33, Try.ntmps33
  go_wp2_with fail
  go_quiet (fail)
  obtain ⟨w0, hw0⟩ : ∃ w0, w0 = (w.alloc (.cells #[.int .i64 (i.c.file : Int), .bool i.c.app, i.val, .int .i64 (i.c.left : Int)] 79)).drewN nq := ⟨_, rfl⟩
  rw [← hw0]
  have hb1 : Below w.heap.size w w0 := hb0.trans (by rw [hw0]; exact below_drewN (Below.refl _ _) _)
  obtain ⟨g, hge⟩ : ∃ g, g = w.heap.size := ⟨_, rfl⟩
  have hgg : CBlk w0 g i := by rw [hge, hw0]; exact hg
  rw [← hge]
  replace hge := hid hge
  clear hg hb0 c0 hw0
  have h1 := h.1.below hb1
  have c0 := hgg.c0
  have c1 := hgg.c1
  have c2 := hgg.c2
  have c3 := hgg.c3
  have cF := h1.blk.cF (2 * i.c.file + 1) (by omega)
  rw [hv, show 2 + (2 * i.c.file + 1) = 2 + i.c.file * 2 + 1 by omega] at cF
  have hown := h1.six.own (2 * i.c.file + 1) (by omega)
  rw [h6, hv] at hown
  have hap := applied_any i a (d.cur i.c.file).length cap (d.cur i.c.file) w0.drew rfl hown (show At w0 i.a i.c.data from hi.1.1.below hb1) hcut hlen
  unfold CIt.agg at hap
  have hpn : ¬ (Value.slice a (d.cur i.c.file).length cap).ownBlock = some p := fun e => h1.blk.ne_own hown p e rfl
  go_wp2_with fail
  go_region_with (go_at_call 52; refine hap.mono ?_; rintro e w1 ⟨b, m, c, rfl, hm, ho1, hk1, hn1⟩; have hB1 := DBlk.kp (w := w0.drew) h1.blk hk1 hpn; have cF1 := hB1.cF (2 * i.c.file + 1) (by omega); have fF1 := hB1.free (2 + i.c.file * 2 + 1); rw [hv, show 2 + (2 * i.c.file + 1) = 2 + i.c.file * 2 + 1 by omega] at cF1)
  all_goals
    rw [← hm]
    obtain ⟨h2, ht2, hk2⟩ := slot_step (h1.below (drew_below w0)) (2 * i.c.file + 1) (by omega) hv hk1 hn1 ho1
    rw [← note_six, show 2 + (2 * i.c.file + 1) = 2 + i.c.file * 2 + 1 by omega] at h2
    rw [show 2 + (2 * i.c.file + 1) = 2 + i.c.file * 2 + 1 by omega] at hk2
    have hg2 : CBlk (w1.setCell ⟨p, 2 + i.c.file * 2 + 1, none⟩ (.slice b m c)) g i := CBlk.kp (w := w0.drew) hgg hk2 (fun e => by
      have := h.1.turn_lt g e
      have := hge.out
      omega)
    generalize w1.setCell ⟨p, 2 + i.c.file * 2 + 1, none⟩ (.slice b m c) = w2 at *
    generalize hx1 : (⟨upd x.F (2 * i.c.file + 1) (.slice b m c), x.u, x.its⟩ : Dx) = x1 at *
    clear c0 c1 c2 c3 hB1 cF1 fF1 cF
    have c0 := hg2.c0
    have c1 := hg2.c1
    have c2 := hg2.c2
    have c3 := hg2.c3
    have c8 := h2.blk.c8
    have f8 := h2.blk.free 8
    have hbl := (drew_below w2).trans ((below_lit w2.drew (.cells #[.int .i64 (i.c.file : Int), .bool i.c.app, i.val, .int .i64 (i.c.left : Int)] 79)))
    have h3 := h2.below hbl
    have c8' := (h2.below (below_lit w2 (.cells #[.int .i64 (i.c.file : Int), .bool i.c.app, i.val, .int .i64 (i.c.left : Int)] 79))).blk.c8
    have hat3 := cat_lit w2.drew 79 i.cells #[.int .i64 (i.c.file : Int), .bool i.c.app, i.val, .int .i64 (i.c.left : Int)] rfl
    obtain ⟨i0, hii, hz0, hz1, hz2⟩ := info_parts info79
    have hlen4 : x1.its.length + 1 ≤ 1000001 := by
      have e1 : x1.its = x.its := by rw [← hx1]
      have e2 := congrArg List.length h.2
      rw [chs, List.length_map] at e2
      rw [e1]; omega
    have hone := its_one [i]
    rw [show [i].flatMap CIt.cells = i.cells by simp] at hone
    replace hx1 := hid hx1
    have hpu : ¬ x1.u.ownBlock = some p := fun e => h3.blk.ne_row h3.row p e rfl
    go_wp2_with fail
    go_region_law (refine step_cat rfl (.tmp 24) (.tmp 26) 52 rfl 0 79 i0 _ 4 48 Try.underlying52 hii hz0 hz1 hz2 rfl (by omega) x1.u x1.its.length (x1.its.flatMap CIt.cells) rfl h3.row (some ⟨w2.heap.size, 0, none⟩) 1 1 i.cells rfl rfl hat3 hone (by unfold maxLen; omega) (by omega) (Nat.zero_le _) ?_; intro v3 w3 hr3 hgr3 hb3; obtain ⟨a3, e3, rfl, he3⟩ := owns_form hr3; have hB3 := h3.blk.kp (Kp.grown hgr3) hpu; have c83 := hB3.c8; have f83 := hB3.free 8)
    all_goals
      go_wp2
      go_end0
      have hk3 : Kp (fun k => x1.u.ownBlock = some k) w2 w3 := (Kp.of_below hbl).trans (Kp.grown hgr3)
      have hr4 : Row4 w3 (.slice a3 (x1.its.length + 1) e3) (x1.its ++ [i]) := by
        unfold Row4
        rw [List.length_append, List.flatMap_append]
        simpa using hr3
      have hz2 : w2.heap.size ≤ (w2.drew.alloc (.cells #[.int .i64 (i.c.file : Int), .bool i.c.app, i.val, .int .i64 (i.c.left : Int)] 79)).heap.size := hbl.size
      have hw2 : w.heap.size ≤ w2.heap.size := Nat.le_trans hb1.size hk2.size
      have hx1u : x1.its = x.its := by rw [← hx1.out]
      have hadd : ∀ j ∈ x1.its ++ [i], AddAt w2 j := by
        intro j hj
        rcases List.mem_append.1 hj with h4 | h4
        · exact h2.adds j h4
        · rw [List.mem_singleton] at h4
          subst h4
          refine AddAt.kp (S := Turn p x) hi ((Kp.of_below (bnext hb1 (drew_below w0))).trans hk2) hsep
      have hT1 : ∀ k, Turn p x1 k → Turn p x k ∨ w.heap.size ≤ k := fun k e => by
        rcases ht2 k e with h4 | h4
        · exact .inl h4
        · exact .inr (Nat.le_trans hb1.size h4)
      have hsp : ∀ j ∈ x1.its ++ [i], ∀ ad, j.a = some ad → ¬ Turn p x1 ad.block := by
        intro j hj ad e ht
        rcases List.mem_append.1 hj with h4 | h4
        · exact h2.sep _ ⟨j, h4, ad, e, rfl⟩ ht
        · rw [List.mem_singleton] at h4
          subst h4
          rcases hT1 _ ht with h5 | h5
          · exact hsep ad e h5
          · have := hi.2 ad e; omega
      obtain ⟨h5, ht5, hk5⟩ := row_step h2 hk3 (fun k e => by
        rcases hb3 with h4 | h4
        · exact .inl (h4 ▸ e)
        · rw [h4] at e
          simp at e
          exact .inr (by omega)) hr4 hadd hsp
      refine ⟨rfl, ⟨x1.F, _, x1.its ++ [i]⟩, ⟨h5, ?_⟩, ?_, by rw [hx1u], ?_⟩
      · show chs (x1.its ++ [i]) = d.ops ++ [i.c]
        rw [hx1u, ← h.2]
        simp [chs]
      · intro k e
        rcases ht5 k e with h4 | h4
        · exact hT1 k h4
        · exact .inr (by omega)
      · have hkA : Kp (Turn p x) w w2 := (Kp.of_below (bnext hb1 (drew_below w0))).trans hk2
        refine hkA.next hk5 (fun k hk e => ?_)
        rcases hT1 k e with h4 | h4
        · exact h4
        · omega
end Go.Proofs.Ytpngnmogjmdmhaa
