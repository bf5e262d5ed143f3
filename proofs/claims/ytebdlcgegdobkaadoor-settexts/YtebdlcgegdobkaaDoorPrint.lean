/- Print: a run's text, the closure that takes it, the runs of a set, their texts joined. -/
import Derived.Test.YtebdlcgegdobkaaDoorFirst
import Derived.Test.YtebdlcgegdobkaaDoorText
import Derived.Test.YtebdlcgegdobkaaDoorShelf
namespace Go.Proofs.YtebdlcgegdobkaaDoor
open Go.RowKit

def Str (l : List UInt8) : Value := .string ⟨l.toArray⟩

theorem itoa_any (n : Nat) (hn : n < 32) (w : World) : Calls Tryd.prog 37 #[.int .i64 (n : Int)] w fun e w' => e = .returned (Str (dig n)) ∧ w' = w := by
  have := itoa_lib n (by omega) w
  rw [show Lib.decDigits n = dig n from dig_dec ⟨n, hn⟩] at this
  exact this

theorem dig_len (n : Nat) : (dig n).length ≤ 2 := by unfold dig; split <;> simp

theorem str_add (x y : List UInt8) : (⟨x.toArray⟩ : ByteArray) ++ ⟨y.toArray⟩ = ⟨(x ++ y).toArray⟩ := by
  apply ByteArray.ext
  simp

theorem runtext_any (a b : Nat) (ha : a < 32) (hb : b < 32) (w : World) : Calls Tryd.prog 32 #[.int .i64 (a : Int), .int .i64 (b : Int)] w fun e w' => e = .returned (Str (runT (a, b))) ∧ w' = w := by
  by_cases h : a = b
  · subst h
    have hr := hid (show runT (a, a) = dig a by simp [runT])
    go_enter Tryd.func32, Tryd.ntmps32
    go_wp2_with (go_at_call 37; refine (itoa_any a ha _).mono ?_; rintro e w1 ⟨rfl, rfl⟩)
    go_ret
    rw [hr.out]
    exact ⟨rfl, rfl⟩
  · have hr := hid (show runT (a, b) = dig a ++ 45 :: dig b by simp [runT, h])
    go_enter Tryd.func32, Tryd.ntmps32
    obtain ⟨X, hX⟩ : ∃ X : ByteArray, X = ⟨(dig a).toArray⟩ := ⟨_, rfl⟩
    obtain ⟨Y, hY⟩ : ∃ Y : ByteArray, Y = ⟨(dig b).toArray⟩ := ⟨_, rfl⟩
    have lx : X.size ≤ 2 := by rw [hX]; exact dig_len a
    have ly : Y.size ≤ 2 := by rw [hY]; exact dig_len b
    have hca : ∀ w, Calls Tryd.prog 37 #[.int .i64 (a : Int)] w fun e w' => e = .returned (.string X) ∧ w' = w := fun w => by rw [hX]; exact itoa_any a ha w
    have hcb : ∀ w, Calls Tryd.prog 37 #[.int .i64 (b : Int)] w fun e w' => e = .returned (.string Y) ∧ w' = w := fun w => by rw [hY]; exact itoa_any b hb w
    replace hX := hid hX
    replace hY := hid hY
    go_wp2_with fail
    refine (hca _).mono ?_
    rintro e w1 ⟨rfl, rfl⟩
    go_wp2_with fail
    refine (hcb _).mono ?_
    rintro e w2 ⟨rfl, rfl⟩
    go_wp2
    go_ret
    rw [hr.out]
    refine ⟨?_, rfl⟩
    rw [hX.out, hY.out]
    show Ending.returned (.string ((⟨(dig a).toArray⟩ : ByteArray) ++ ⟨[45].toArray⟩ ++ ⟨(dig b).toArray⟩)) = _
    rw [str_add, str_add]
    simp [Str]

/-- A row of texts. -/
def SOwn (w : World) (base : Nat) (v : Value) (T : List (List UInt8)) : Prop := w.ownsRow base 9 1 v T.length (T.map Str)

theorem info9 : (Tryd.prog.info? 9).map (fun i => (i.zero, i.size, i.bytes)) = some (some (.string ⟨#[]⟩), 1, 16) := by kernel_rfl

def TBlk (w : World) (p : Nat) (v : Value) : Prop := w.heap[p]? = some (.cells #[v] 47 (0, 0))

theorem TBlk.cell {w : World} {p : Nat} {v : Value} (h : TBlk w p v) : w.cell? ⟨p, 0, none⟩ = some v := by
  unfold TBlk at h; simp [World.cell?, h]

theorem TBlk.free {w : World} {p : Nat} {v : Value} (h : TBlk w p v) : w.frozen? ⟨p, 0, none⟩ = false := by
  unfold TBlk at h; simp [World.frozen?, h]

theorem TBlk.lt {w : World} {p : Nat} {v : Value} (h : TBlk w p v) : p < w.heap.size := (Array.getElem?_eq_some_iff.1 h).1

theorem TBlk.set {w : World} {p : Nat} {v : Value} (h : TBlk w p v) (u : Value) : TBlk (w.setCell ⟨p, 0, none⟩ u) p u := by
  unfold TBlk at *
  rw [setCell_eq_setRow w p 0 _ 47 (0, 0) u h, setRow_heap w p _ _ 47 _ h]
  rfl

theorem TBlk.kp {S : Nat → Prop} {w w' : World} {p : Nat} {v : Value} (h : TBlk w p v) (hk : Kp S w w') (hn : ¬ S p) : TBlk w' p v := by
  unfold TBlk; rw [hk.block p h.lt hn]; exact h

theorem str_one (l : List UInt8) : ∀ u ∈ [Str l], u.oneCell' = true := by
  intro u hu; simp at hu; subst hu; rfl

set_option maxHeartbeats 800000 in
theorem tell_any (p a b : Nat) (v : Value) (T : List (List UInt8)) (ha : a < 32) (hb : b < 32) (w : World) (hp : TBlk w p v) (ho : SOwn w (p + 1) v T) (hT : T.length ≤ 40) :
    Calls Tryd.prog 31 #[.int .i64 (a : Int), .int .i64 (b : Int), .pointer (some ⟨p, 0, none⟩)] w fun e w' => e = .returned (.tuple #[]) ∧ ∃ v', TBlk w' p v' ∧ SOwn w' (p + 1) v' (T ++ [runT (a, b)]) ∧ Kp (fun k => p ≤ k) w w' := by
  obtain ⟨i0, hi0, hz0, hz1, hz2⟩ := info_parts info9
  have c0 := hp.cell
  have f0 := hp.free
  have hlt := hp.lt
  have bd : Below w.heap.size w w.drew := (Below.refl _ w).drew
  have c0d : w.drew.cell? ⟨p, 0, none⟩ = some v := c0
  have hcp := runtext_any a b ha hb w.drew
  obtain ⟨x, hx⟩ : ∃ x, x = runT (a, b) := ⟨_, rfl⟩
  rw [← hx] at hcp ⊢
  obtain ⟨X, hX⟩ : ∃ X : ByteArray, Str x = .string X := ⟨_, rfl⟩
  rw [hX] at hcp
  have bl := below_lit w.drew (.cells #[.string X] 9)
  have B1 := bnext bd bl
  have ho2 := owns_below (owns_below ho bd) bl
  have hcl := cat_lit w.drew 9 [.string X] #[.string X] rfl
  have hbase : p + 1 ≤ (w.drew.alloc (.cells #[.string X] 9)).heap.size := Nat.le_trans hlt B1.size
  have hone : ∀ u ∈ [Value.string X], u.oneCell' = true := by intro u hu; simp at hu; subst hu; rfl
  have hp1 : TBlk (w.drew.alloc (.cells #[.string X] 9)) p v := hp.kp (S := fun _ => False) (Kp.of_below B1) (fun h => h)
  have hown : ∀ k, v.ownBlock = some k → p + 1 ≤ k := fun k hk => (World.ownsRow.lt ho k hk).1
  replace hp1 := hid hp1
  replace hX := hid hX
  replace hx := hid hx
  replace ho := hid ho
  go_enter Tryd.func31, Tryd.ntmps31
  go_wp2_with fail
  go_region_law (first
    | (refine step_call rfl 32 _ _ rfl Tryd.f32 Tryd.func32 (by kernel_rfl) (by kernel_rfl) #[.int .i64 (a : Int), .int .i64 (b : Int)] (by simp [Act.eval, Act.put]) hcp ?_; rintro e w5 ⟨rfl, rfl⟩; refine ⟨_, rfl, ?_⟩)
    | (refine step_cat rfl (.tmp 5) (.tmp 9) 47 rfl (p + 1) 9 i0 _ 1 16 Tryd.underlying47 hi0 hz0 hz1 hz2 rfl (by omega) v T.length (T.map Str) rfl ho2 (some ⟨w.drew.heap.size, 0, none⟩) 1 1 [.string X] rfl rfl hcl hone (by unfold maxLen; omega) (by omega) hbase ?_; intro v7 w7 hr7 hg7 hv7; obtain ⟨a7, k7, e7, hk7⟩ := owns_form hr7; subst e7; have hp7 : TBlk w7 p v := hp1.out.kp (Kp.grown hg7) (fun h => by have := hown _ h; omega); have c7 := hp7.cell; have f7 := hp7.free))
  all_goals
    have hfin : ∃ v', TBlk (w7.setCell ⟨p, 0, none⟩ (.slice a7 (T.length + 1) k7)) p v' ∧ SOwn (w7.setCell ⟨p, 0, none⟩ (.slice a7 (T.length + 1) k7)) (p + 1) v' (T ++ [x]) ∧ Kp (fun k => p ≤ k) w (w7.setCell ⟨p, 0, none⟩ (.slice a7 (T.length + 1) k7)) := by
      refine ⟨_, hp7.set _, ?_, ?_⟩
      · have hk : Kp (fun k => k = p) w7 (w7.setCell ⟨p, 0, none⟩ (.slice a7 (T.length + 1) k7)) := Kp.setCell (S := fun k => k = p) (Kp.refl _ _) (p := ⟨p, 0, none⟩) rfl _
        have h1 := owns_kp hr7 hk (fun k hk e => by have := (World.ownsRow.lt hr7 k hk).1; omega)
        unfold SOwn
        rw [← hX.out] at h1
        simpa using h1
      · refine Kp.setCell (p := ⟨p, 0, none⟩) ?_ (Nat.le_refl p) _
        refine ((Kp.of_below B1).next (Kp.grown hg7) fun i _ h => ?_)
        have := hown _ h
        omega
    replace hfin := hid hfin
    go_wp2
    go_end0
    exact ⟨rfl, hfin.out⟩

theorem shl1 (s : Nat) : ((s : Int) * 2) % 4294967296 = ((s * 2 % 4294967296 : Nat) : Int) := by omega

end Go.Proofs.YtebdlcgegdobkaaDoor
