/- The fixed answers that every statement asks (awake) come out true, whatever the memory; Put and All with their answers given. -/
import Derived.Test.YtkkdiciadkcmmaaGet
namespace Go.Proofs.Ytkkdiciadkcmmaa
open Go.RowKit

theorem put_ok (a : Option Addr) (len cap n : Nat) (its : List It) (w : World) (hl : its.length = len) (hat : FAt w a its) (h : Right (fds its)) (hn : (bytesOf (fds its)).length = n) (hs : n ≤ 65000) :
    Calls Try.prog 8 #[.slice a len cap] w fun e w' => ∃ a' c', e = .returned (.tuple #[.slice a' n c', .int .i64 0]) ∧ n ≤ c' ∧ At w' a' (bytesOf (fds its)) ∧ Below w.heap.size w w' := by
  refine (put_right a len cap its w hl hat h).mono ?_
  rintro e w' ⟨h1, hb⟩
  rcases h1 with ⟨h2, _⟩ | ⟨_, v, rfl, ho⟩
  · omega
  · obtain ⟨a', c', rfl, hc, hat'⟩ := ho.form
    rw [hn] at hc ⊢
    exact ⟨a', c', rfl, hc, hat', hb⟩

theorem put_long (a : Option Addr) (len cap : Nat) (its : List It) (w : World) (hl : its.length = len) (hat : FAt w a its) (h : Right (fds its)) (hs : 65000 < (bytesOf (fds its)).length) :
    Calls Try.prog 8 #[.slice a len cap] w fun e w' => e = .returned (.tuple #[.slice none 0 0, .int .i64 3]) ∧ Below w.heap.size w w' := by
  refine (put_right a len cap its w hl hat h).mono ?_
  rintro e w' ⟨h1, hb⟩
  rcases h1 with ⟨_, rfl⟩ | ⟨h2, _⟩
  · exact ⟨rfl, hb⟩
  · omega

theorem all_ok (a : Option Addr) (len cap : Nat) (l : List UInt8) (fs : List Fd) (n : Nat) (w : World) (hl : l.length = len) (hcap : len ≤ cap) (hat : At w a l) (h : Reads l fs) (hf : ∀ f ∈ fs, Fits f) (hn : fs.length = n) :
    Calls Try.prog 11 #[.slice a len cap] w fun e w' => ∃ a' c' its, e = .returned (.tuple #[.slice a' n c', .int .i64 0]) ∧ fds its = fs ∧ its.length = n ∧ FAt w' a' its ∧ Below w.heap.size w w' := by
  refine (all_any a len cap l w hl hcap hat).mono ?_
  rintro e w' ⟨h1, hb⟩
  rcases h1 with ⟨a', c', its, rfl, h2, h3⟩ | ⟨_, h2⟩
  · have hfi : ∀ f ∈ fds its, Fits f := fun f hf' => by
      obtain ⟨i, hi, rfl⟩ := List.mem_map.1 hf'
      exact (h3.2 i hi).fit
    have e1 := reads_tkAll h hf
    have e2 := reads_tkAll h2 hfi
    rw [e1] at e2
    have e3 : fs = fds its := congrArg Prod.fst e2
    have e4 : its.length = n := by rw [← hn, e3]; simp [fds]
    exact ⟨a', c', its, by rw [e4], e3.symm, e4, h3, hb⟩
  · exact absurd hf (h2 fs h)

theorem all_no (a : Option Addr) (len cap : Nat) (l : List UInt8) (w : World) (hl : l.length = len) (hcap : len ≤ cap) (hat : At w a l) (h : ∀ fs, Reads l fs → ¬ ∀ f ∈ fs, Fits f) :
    Calls Try.prog 11 #[.slice a len cap] w fun e w' => e = .returned (.tuple #[.slice none 0 0, .int .i64 40]) ∧ Below w.heap.size w w' := by
  refine (all_any a len cap l w hl hcap hat).mono ?_
  rintro e w' ⟨h1, hb⟩
  rcases h1 with ⟨a', c', its, rfl, h2, h3⟩ | ⟨rfl, _⟩
  · exact absurd (fun f hf' => by
      obtain ⟨i, hi, rfl⟩ := List.mem_map.1 hf'
      exact (h3.2 i hi).fit) (h _ h2)
  · exact ⟨rfl, hb⟩

def two : List Fd := [⟨1, 1, 5, ByteArray.empty, [], []⟩, ⟨2, 2, 0, ⟨#[97, 98]⟩, [], []⟩]
def twoIts : List It := [⟨⟨1, 1, 5, ByteArray.empty, [], []⟩, none, 0, none, 0⟩, ⟨⟨2, 2, 0, ⟨#[97, 98]⟩, [], []⟩, none, 0, none, 0⟩]
def twoB : List UInt8 := [2, 1, 1, 0, 0, 0, 0, 0, 0, 0, 5, 2, 2, 0, 2, 97, 98]

theorem two_bytes : bytesOf two = twoB := by decide
theorem two_fits : ∀ f ∈ two, Fits f := by
  intro f hf
  simp [two] at hf
  rcases hf with rfl | rfl <;> exact ⟨by unfold In64; simp, by simp⟩
theorem two_right : Right two := by
  refine ⟨by simp [two], fun i h => ?_⟩
  simp [two] at h
  match i, h with
  | 0, _ => exact ⟨.inl ⟨rfl, by simp [two], rfl, rfl, rfl⟩, fun h => by omega⟩
  | 1, _ => exact ⟨.inr (.inl ⟨rfl, rfl, by simp [two]; decide, by simp [two]; decide, rfl, rfl⟩), fun _ => by simp [two]⟩
theorem two_reads : Reads twoB two := ⟨two_right, two_bytes, by simp [twoB]⟩
theorem two_fds : fds twoIts = two := rfl

theorem two_any (w : World) : Calls Try.prog 35 #[] w fun e w' => ∃ g, e = .returned (.slice (some ⟨g, 0, none⟩) 2 2) ∧ FAt w' (some ⟨g, 0, none⟩) twoIts ∧ Below w.heap.size w w' := by
  go_enter Try.func35, Try.ntmps35
  go_wp2
  go_ret
  refine ⟨_, rfl, ⟨cat_lit w 30 _ _ rfl, fun i hi => ?_⟩, below_lit w _⟩
  have hf := two_fits i.fd (by rw [← two_fds]; exact List.mem_map.2 ⟨i, hi, rfl⟩)
  simp [twoIts] at hi
  rcases hi with rfl | rfl
  · exact ⟨CAt.nil _ _, CAt.nil _ _, hf⟩
  · exact ⟨CAt.nil _ _, CAt.nil _ _, hf⟩

theorem twob_any (w : World) : Calls Try.prog 12 #[] w fun e w' => ∃ g, e = .returned (.slice (some ⟨g, 0, none⟩) 17 17) ∧ Row w' g twoB ∧ Below w.heap.size w w' := by
  go_enter Try.func12, Try.ntmps12
  go_wp2
  go_ret
  exact ⟨_, rfl, heap_alloc_new w _, below_lit w _⟩

theorem get_two : getOf two 2 = (⟨2, 2, 0, ⟨#[97, 98]⟩, [], []⟩, true) := rfl

theorem two_short (its : List It) (h : fds its = two) : (∀ i ∈ its, Short i) ∧ ∀ i ∈ its, Room i := by
  have key : ∀ i ∈ its, i.fd.ns.length = 0 ∧ i.fd.texts.length = 0 := fun i hi => by
    have : i.fd ∈ two := by rw [← h]; exact List.mem_map.2 ⟨i, hi, rfl⟩
    simp [two] at this
    rcases this with e | e <;> rw [e] <;> exact ⟨rfl, rfl⟩
  exact ⟨fun i hi => by obtain ⟨a, b⟩ := key i hi; exact ⟨by omega, by omega⟩, fun i hi => by obtain ⟨a, b⟩ := key i hi; exact ⟨by omega, by omega⟩⟩

theorem begin_x {w v : World} {c0 c1 c2 c3 c4 c5 : Value} (hb : Below (w.alloc (.cells #[c0, c1, c2, c3, c4, c5] 30)).heap.size (w.alloc (.cells #[c0, c1, c2, c3, c4, c5] 30)) v) : RB v w.heap.size c0 c1 c2 c3 c4 c5 := RB.below (heap_alloc_new w _) hb

set_option maxRecDepth 100000 in
set_option maxHeartbeats 4000000 in
theorem awake_any (w : World) : Calls Try.prog 13 #[] w fun e w' => e = .returned (.bool true) ∧ Below w.heap.size w w' := by
  go_enter Try.func13, Try.ntmps13
  go_wp2_with fail
  refine (two_any _).mono ?_
  rintro e w1 ⟨g1, rfl, hf1, hb1⟩
  go_wp2_with fail
  refine (put_ok _ 2 2 17 twoIts _ rfl hf1 two_right (by rw [two_fds, two_bytes]; rfl) (by omega)).mono ?_
  rintro e w2 ⟨a2, c2, rfl, hc2, hat2, hb2⟩
  rw [two_fds, two_bytes] at hat2
  replace hb2 := bnext hb1 hb2
  go_wp2_with fail
  refine (twob_any _).mono ?_
  rintro e w3 ⟨g3, rfl, hr3, hb3⟩
  replace hat2 := hat2.below hb3
  replace hb3 := bnext hb2 hb3
  go_wp2_with fail
  refine (all_ok _ 17 17 twoB two 2 _ rfl (by omega) hr3.at two_reads two_fits rfl).mono ?_
  rintro e w4 ⟨a4, c4, its, rfl, hfd, hil, hf4, hb4⟩
  replace hat2 := hat2.below hb4
  replace hb4 := bnext hb3 hb4
  have hsr := two_short its hfd
  have hgt := get_any a4 2 c4 2 its w4 hil (by omega) hf4 hsr.2
  rw [hfd, get_two] at hgt
  replace hfd := hid hfd
  replace hil := hid hil
  go_wp2_with fail
  refine hgt.mono ?_
  rintro e w5 ⟨it, rfl, hit, hia, hb5⟩
  replace hat2 := hat2.below hb5
  replace hf4 := hf4.below hb5
  replace hb5 := bnext hb4 hb5
  obtain ⟨⟨tag, kind, n, text, ns, texts⟩, na, nc, ta, tc⟩ := it
  simp only [Fd.mk.injEq] at hit
  obtain ⟨rfl, rfl, rfl, rfl, rfl, rfl⟩ := hit
  unfold It.val
  dsimp only
  clear hia hgt hsr
  go_wp2_with fail
  refine (twob_any _).mono ?_
  rintro e w6 ⟨g6, rfl, hr6, hb6⟩
  have hx6 := begin_x hb6
  replace hat2 := (hat2.below (below_lit w5 _)).below hb6
  replace hf4 := (hf4.below (below_lit w5 _)).below hb6
  replace hb6 := bnext (bnext hb5 (below_lit w5 _)) hb6
  go_wp2_with fail
  refine (same_any a2 _ 17 17 c2 17 twoB twoB _ rfl rfl hat2 hr6.at rfl).mono ?_
  rintro e w7 ⟨rfl, rfl⟩
  go_wp2_with fail
  refine (two_any _).mono ?_
  rintro e w8 ⟨g8, rfl, hf8, hb8⟩
  replace hx6 := hx6.below hb8
  replace hf4 := hf4.below hb8
  replace hb8 := bnext hb6 hb8
  go_wp2_with fail
  refine (samefields_yes a4 _ 2 2 c4 2 its twoIts _ hil.out rfl (by omega) hf4 hf8 (two_short its hfd.out).1 (by rw [hfd.out]; rfl)).mono ?_
  rintro e w9 ⟨rfl, hb9⟩
  replace hx6 := hx6.below hb9
  have hx := hx6.six.c3
  replace hb9 := bnext hb8 hb9
  go_wp2
  go_ret
  exact ⟨rfl, hb9⟩
end Go.Proofs.Ytkkdiciadkcmmaa
