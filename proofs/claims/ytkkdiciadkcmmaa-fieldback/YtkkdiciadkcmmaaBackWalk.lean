/- FieldBack answers true, whatever the fields, the bytes and the number; memory stays as it was. -/
import Derived.Test.YtkkdiciadkcmmaaApartWalk
namespace Go.Proofs.Ytkkdiciadkcmmaa
open Go.RowKit

theorem cut_none {fs : List Fd} (h1 : Right fs) (f1 : ∀ f ∈ fs, Fits f) (n : Nat) (hn : n < (bytesOf fs).length) : ∀ gs, Reads ((bytesOf fs).take n) gs → ¬ ∀ f ∈ gs, Fits f := by
  intro gs hr hf
  have e : bytesOf fs = bytesOf gs ++ (bytesOf fs).drop n := by rw [hr.2.1, List.take_append_drop]
  have := (bytes_apart h1 f1 hr.1 hf e).2
  have hl := congrArg List.length this
  rw [List.length_drop, List.length_nil] at hl
  omega

theorem more_none {fs : List Fd} (h1 : Right fs) (f1 : ∀ f ∈ fs, Fits f) (c : UInt8) : ∀ gs, Reads (bytesOf fs ++ [c]) gs → ¬ ∀ f ∈ gs, Fits f := by
  intro gs hr hf
  have := (bytes_apart hr.1 hf h1 f1 hr.2.1).2
  cases this

theorem lit_byte (X : Int) (c : UInt8) (h : X = (c.toNat : Int)) : #[Value.int .u8 X] = ([c].map B).toArray := by subst h; simp [B]

theorem byte_of (X : Int) (h0 : 0 ≤ X) (h1 : X < 256) : ∃ c : UInt8, X = (c.toNat : Int) := ⟨UInt8.ofNat X.toNat, by rw [of_nat_toNat _ (by omega)]; omega⟩

set_option maxRecDepth 100000 in
set_option maxHeartbeats 4000000 in
theorem back_any (a0 ab : Option Addr) (len0 cap0 lenb capb : Nat) (cut : Int) (s0 : List It) (lb : List UInt8) (w : World) (h0 : s0.length = len0) (f0 : FAt w a0 s0) (hlen : len0 ≤ 9223372036854775807) (hsh : ∀ i ∈ s0, Short i) (hlb : lb.length = lenb) (hcb : lenb ≤ capb) (hab : At w ab lb) :
    Calls Try.prog 6 #[.slice a0 len0 cap0, .slice ab lenb capb, .int .i64 cut] w fun e w' => e = .returned (.bool true) ∧ Below w.heap.size w w' := by
  have ft0 := fits_of f0
  have htail : ∀ (v : World), Below w.heap.size w v → At v ab lb := fun v hv => hab.below hv
  replace ft0 := hid ft0
  replace htail := hid htail
  by_cases hr : Right (fds s0)
  · by_cases hs : (bytesOf (fds s0)).length ≤ 65000
    · obtain ⟨n, hn⟩ : ∃ n, n = (bytesOf (fds s0)).length := ⟨_, rfl⟩
      rw [← hn] at hs
      have hpos : 0 < n := by rw [hn]; simp [bytesOf]
      have hp0 := put_ok a0 len0 cap0 n s0 w h0 f0 hr hn.symm hs
      have hrd : Reads (bytesOf (fds s0)) (fds s0) := ⟨hr, rfl, by omega⟩
      have hpk := pickOf_lt cut n hpos
      obtain ⟨p, hp⟩ : ∃ p, p = pickOf cut n := ⟨_, rfl⟩
      have hpick : ∀ v, Calls Try.prog 24 #[.int .i64 cut, .int .i64 (n : Int)] v fun e w' => e = .returned (.int .i64 (p : Int)) ∧ w' = v := fun v => by rw [hp]; exact pick_val cut n n v rfl hpos (by omega)
      rw [← hp] at hpk
      have hcut := cut_none hr ft0.out p (by omega)
      obtain ⟨C, hC⟩ := byte_of (cut % 256) (by omega) (by omega)
      have hfl : (fds s0).length = len0 := by simp [fds, h0]
      replace hn := hid hn
      replace hp := hid hp
      replace hcut := hid hcut
      replace hpick := hid hpick
      replace hrd := hid hrd
      replace hfl := hid hfl
      replace hC := hid hC
      go_enter Try.func6, Try.ntmps6
      go_wp2_with fail
      refine hp0.mono ?_
      rintro e w1 ⟨x0, c0, rfl, hc0, hat0, hb1⟩
      clear hp0
      go_wp2_with fail
      refine (all_ok x0 n c0 _ _ len0 w1 hn.out.symm hc0 hat0 hrd.out ft0.out hfl.out).mono ?_
      rintro e w2 ⟨a2, c2, its2, rfl, hfd2, hl2, hf2, hb2⟩
      replace hat0 := hat0.below hb2
      replace hb2 := bnext hb1 hb2
      replace hfd2 := hid hfd2
      replace hl2 := hid hl2
      go_wp2_with fail
      refine (hpick.out _).mono ?_
      rintro e w3 ⟨rfl, rfl⟩
      go_wp2_with fail
      have hpl : ((bytesOf (fds s0)).take p).length = p := by rw [List.length_take, ← hn.out]; omega
      replace hpl := hid hpl
      refine (all_no x0 p c0 _ _ hpl.out (by omega) (hat0.take p) hcut.out).mono ?_
      rintro e w4 ⟨rfl, hb4⟩
      replace hat0 := hat0.below hb4
      replace hf2 := hf2.below hb4
      replace hb4 := bnext hb2 hb4
      go_wp2_with fail
      refine (copy_any x0 c0 n _ _ hn.out.symm (by omega) hat0).mono ?_
      rintro e w5 ⟨v5, rfl, ho5, hb5⟩
      have hz5 := hb5.size
      have hmore := more_none hr ft0.out C
      have hml : (bytesOf (fds s0) ++ [C]).length = n + 1 := by rw [List.length_append, ← hn.out]; rfl
      replace hmore := hid hmore
      replace hml := hid hml
      obtain ⟨a5, c5, rfl, _, _⟩ := ho5.form
      rw [← hn.out] at ho5 ⊢
      go_wp2_with (at_builtin; refine wpList_app _ rfl (.tmp 43) (.tmp 46) rfl rfl w4.heap.size _ (bytesOf (fds s0)) [C] rfl (ho5.alloc _) (some ⟨w5.heap.size, 0, none⟩) 1 1 rfl rfl (at_lit w5 [C] _ (lit_byte _ C (by first | exact hC.out | (rw [IntKind.wrap_u8]; exact hC.out)))) (by rw [← hn.out]; omega) (by simp; omega) ?_; intro v6 w6 ho6 hb6; obtain ⟨a6, c6, hv6, hc6, hat6⟩ := ho6.form; rw [hml.out] at hv6 hc6; rw [hv6]; have hb46 := (hb5.alloc hz5 _).trans hb6)
      refine (all_no a6 (n + 1) c6 _ _ hml.out hc6 hat6 hmore.out).mono ?_
      rintro e w7 ⟨rfl, hb7⟩
      replace hb7 := bnext hb46 hb7
      replace hf2 := hf2.below hb7
      replace hb7 := bnext hb4 hb7
      go_wp2_with fail
      refine (samefields_yes a0 a2 len0 len0 cap0 c2 s0 its2 w7 h0 hl2.out hlen (f0.below hb7) hf2 hsh hfd2.out.symm).mono ?_
      rintro e w8 ⟨rfl, hb8⟩
      replace hb8 := bnext hb7 hb8
      go_wp2_with fail
      refine (right_yes a0 len0 cap0 s0 w8 h0 (f0.below hb8) hr).mono ?_
      rintro e w9 ⟨rfl, hb9a⟩
      replace hb9a := bnext hb8 hb9a
      clear hb1 hb2 hb4 hb5 hb6 hb46 hb7 hb8 ho5 ho6 hat6 hat0
      go_wp2_with fail
      refine (all_any ab lenb capb lb _ hlb hcb (htail.out _ hb9a)).mono ?_
      rintro e v7 ⟨hpost, hb7⟩
      replace hb7 := bnext hb9a hb7
      rcases hpost with ⟨a7, c7, its7, rfl, hrd7, hf7⟩ | ⟨rfl, _⟩
      · obtain ⟨rr, rb, rl⟩ := hrd7
        replace rb := hid rb
        replace rl := hid rl
        go_wp2_with fail
        refine (put_ok a7 its7.length c7 lenb its7 v7 rfl hf7 rr (by rw [rb.out, hlb]) (by have := rl.out; omega)).mono ?_
        rintro e v8 ⟨x8, c8, rfl, hc8, hat8, hb8⟩
        rw [rb.out] at hat8
        replace hf7 := hf7.below hb8
        replace hb8 := bnext hb7 hb8
        go_wp2_with fail
        refine (right_yes a7 its7.length c7 its7 v8 rfl hf7 rr).mono ?_
        rintro e v9 ⟨rfl, hb9⟩
        replace hat8 := hat8.below hb9
        replace hb9 := bnext hb8 hb9
        go_wp2_with fail
        refine (same_any x8 ab lenb lenb c8 capb lb lb v9 hlb hlb hat8 (htail.out _ hb9) rfl).mono ?_
        rintro e v10 ⟨rfl, rfl⟩
        go_wp2_with fail
        refine (awake_any _).mono ?_
        rintro e v11 ⟨rfl, hb11⟩
        go_wp2
        go_ret
        exact ⟨rfl, bnext hb9 hb11⟩
      · go_wp2_with fail
        refine (awake_any _).mono ?_
        rintro e v8 ⟨rfl, hb8⟩
        go_wp2
        go_ret
        exact ⟨rfl, bnext hb7 hb8⟩
    · have hlong : 65000 < (bytesOf (fds s0)).length := by omega
      clear hs
      replace hlong := hid hlong
      go_enter Try.func6, Try.ntmps6
      go_wp2_with fail
      refine (put_long a0 len0 cap0 s0 w h0 f0 hr hlong.out).mono ?_
      rintro e w1 ⟨rfl, hb1⟩
      go_wp2_with fail
      refine (right_yes a0 len0 cap0 s0 w1 h0 (f0.below hb1) hr).mono ?_
      rintro e w2 ⟨rfl, hb2⟩
      replace hb2 := bnext hb1 hb2
      go_wp2_with fail
      refine (all_any ab lenb capb lb _ hlb hcb (htail.out _ hb2)).mono ?_
      rintro e w7 ⟨hpost, hb7⟩
      replace hb7 := bnext hb2 hb7
      rcases hpost with ⟨a7, c7, its7, rfl, hrd7, hf7⟩ | ⟨rfl, _⟩
      · obtain ⟨rr, rb, rl⟩ := hrd7
        replace rb := hid rb
        replace rl := hid rl
        go_wp2_with fail
        refine (put_ok a7 its7.length c7 lenb its7 w7 rfl hf7 rr (by rw [rb.out, hlb]) (by have := rl.out; omega)).mono ?_
        rintro e w8 ⟨x8, c8, rfl, hc8, hat8, hb8⟩
        rw [rb.out] at hat8
        replace hf7 := hf7.below hb8
        replace hb8 := bnext hb7 hb8
        go_wp2_with fail
        refine (right_yes a7 its7.length c7 its7 w8 rfl hf7 rr).mono ?_
        rintro e w9 ⟨rfl, hb9⟩
        replace hat8 := hat8.below hb9
        replace hb9 := bnext hb8 hb9
        go_wp2_with fail
        refine (same_any x8 ab lenb lenb c8 capb lb lb w9 hlb hlb hat8 (htail.out _ hb9) rfl).mono ?_
        rintro e w10 ⟨rfl, rfl⟩
        go_wp2_with fail
        refine (awake_any _).mono ?_
        rintro e w11 ⟨rfl, hb11⟩
        go_wp2
        go_ret
        exact ⟨rfl, bnext hb9 hb11⟩
      · go_wp2_with fail
        refine (awake_any _).mono ?_
        rintro e w8 ⟨rfl, hb8⟩
        go_wp2
        go_ret
        exact ⟨rfl, bnext hb7 hb8⟩
  · go_enter Try.func6, Try.ntmps6
    go_wp2_with fail
    refine (put_no a0 len0 cap0 s0 w h0 f0 hr).mono ?_
    rintro e w1 ⟨rfl, hb1⟩
    go_wp2_with fail
    refine (right_no a0 len0 cap0 s0 w1 h0 (f0.below hb1) hr).mono ?_
    rintro e w2 ⟨rfl, hb2⟩
    replace hb2 := bnext hb1 hb2
    go_wp2_with fail
    refine (all_any ab lenb capb lb _ hlb hcb (htail.out _ hb2)).mono ?_
    rintro e w7 ⟨hpost, hb7⟩
    replace hb7 := bnext hb2 hb7
    rcases hpost with ⟨a7, c7, its7, rfl, hrd7, hf7⟩ | ⟨rfl, _⟩
    · obtain ⟨rr, rb, rl⟩ := hrd7
      replace rb := hid rb
      replace rl := hid rl
      go_wp2_with fail
      refine (put_ok a7 its7.length c7 lenb its7 w7 rfl hf7 rr (by rw [rb.out, hlb]) (by have := rl.out; omega)).mono ?_
      rintro e w8 ⟨x8, c8, rfl, hc8, hat8, hb8⟩
      rw [rb.out] at hat8
      replace hf7 := hf7.below hb8
      replace hb8 := bnext hb7 hb8
      go_wp2_with fail
      refine (right_yes a7 its7.length c7 its7 w8 rfl hf7 rr).mono ?_
      rintro e w9 ⟨rfl, hb9⟩
      replace hat8 := hat8.below hb9
      replace hb9 := bnext hb8 hb9
      go_wp2_with fail
      refine (same_any x8 ab lenb lenb c8 capb lb lb w9 hlb hlb hat8 (htail.out _ hb9) rfl).mono ?_
      rintro e w10 ⟨rfl, rfl⟩
      go_wp2_with fail
      refine (awake_any _).mono ?_
      rintro e w11 ⟨rfl, hb11⟩
      go_wp2
      go_ret
      exact ⟨rfl, bnext hb9 hb11⟩
    · go_wp2_with fail
      refine (awake_any _).mono ?_
      rintro e w8 ⟨rfl, hb8⟩
      go_wp2
      go_ret
      exact ⟨rfl, bnext hb7 hb8⟩
end Go.Proofs.Ytkkdiciadkcmmaa
