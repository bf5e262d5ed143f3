/- SessionKeeps answers true, whatever the clients, numbers, reply and others. -/
import Derived.Test.YthjggjjocfbjcaaPick
import Derived.Test.YthjggjjocfbjcaaKeepP
import Derived.Test.YthjggjjocfbjcaaArg
namespace Go.Proofs.Ythjggjjocfbjcaa
open Go.RowKit

/-- What stands between two rounds. -/
def KeI (w wr : World) (cl rq : Int) (reply : List UInt8) (v : Value) : Prop :=
  ∃ a c n L, v = .slice a n c ∧ L.length = n ∧ n ≤ 16 ∧ LAt wr 0 a L ∧ Stays (L.map CV.flat) cl rq reply ∧ Below w.heap.size w wr

/-- What a look leaves that does not settle the request. -/
def StepP (cl rq who what : Int) (reply : List UInt8) (w : World) (en : Ending) (w' : World) : Prop :=
  ∃ a' c' n' L' v ra' rn' rc' e, en = .returned (.tuple #[.slice a' n' c', .int .u8 v, .slice ra' rn' rc', .int .i64 e]) ∧ Below w.heap.size w w' ∧
    (e = 0 → L'.length = n' ∧ n' ≤ 16 ∧ LAt w' 0 a' L' ∧ Stays (L'.map CV.flat) cl rq reply ∧ (v = 1 → ∃ m'', doneP (L'.map CV.flat) who what [] = (m'', 0) ∧ Stays m'' cl rq reply))

theorem look_step (a : Option Addr) (n c : Nat) (L : List CV) (cl rq who what kn : Int) (reply : List UInt8) (w : World) (hL : L.length = n) (h : LAt w 0 a L) (hn : n ≤ 16) (hS : Stays (L.map CV.flat) cl rq reply) (hk : who = cl → kn < rq) :
    Calls Try.prog 8 #[.slice a n c, .int .i64 who, .int .i64 what, .int .i64 kn] w (StepP cl rq who what reply w) := by
  refine (look_any a n c 0 L who what kn w hL h (by omega)).mono ?_
  rintro en w' ⟨a', c', L', ra, rc, rfl, h1, h2, h3, h4⟩
  refine ⟨a', c', _, L', _, ra, _, rc, _, rfl, h4, fun he => ?_⟩
  have hR : lookP (L.map CV.flat) who what kn = ((lookP (L.map CV.flat) who what kn).1, (lookP (L.map CV.flat) who what kn).2.1, (lookP (L.map CV.flat) who what kn).2.2.1, 0) := by
    rw [← he]
  have hS' := stays_look hS hk hR
  rw [← h1] at hS' ⊢
  refine ⟨by simp, by have := hS'.1.len; simpa using this, h2.le (Nat.zero_le _), hS', fun hv => ?_⟩
  rw [hv] at hR
  have := stays_done hS hk hR
  rw [← h1] at this
  exact this

set_option maxRecDepth 100000 in
set_option maxHeartbeats 4000000 in
theorem keeps_any (a : Option Addr) (n c : Nat) (L : List CV) (x1 x2 : Int) (ra : Option Addr) (rl rc : Nat) (reply : List UInt8) (oa : Option Addr) (on oc : Nat) (w : World) (hL : L.length = n) (h : LAt w 0 a L) (hn : n ≤ 9000000000000000000) (hrl : reply.length = rl) (hrs : rl ≤ 140737488355328) (hat : At w ra reply) (ho : IAt w oa on) (hon : on ≤ 4611686018427387904) :
    Calls Try.prog 7 #[.slice a n c, .int .i64 x1, .int .i64 x2, .slice ra rl rc, .slice oa on oc] w fun e w' => e = .returned (.bool true) ∧ Below w.heap.size w w' := by
  replace hL := hid hL
  replace hrl := hid hrl
  go_enter Try.func7, Try.ntmps7
  go_wp2_with fail
  refine (pick_any x1 20 _ (by omega) (by omega)).mono ?_
  rintro e w1 ⟨⟨p1, hp1, rfl⟩, rfl⟩
  go_wp2_with fail
  refine (pick_any x2 1000 _ (by omega) (by omega)).mono ?_
  rintro e w2 ⟨⟨p2, hp2, rfl⟩, rfl⟩
  go_wp2_with fail
  obtain ⟨cl, hcl⟩ : ∃ cl : Int, cl = 1 + (p1 : Int) := ⟨_, rfl⟩
  obtain ⟨rq, hrq⟩ : ∃ rq : Int, rq = 2 + (p2 : Int) := ⟨_, rfl⟩
  rw [← hcl, ← hrq]
  have hc1 : 1 ≤ cl ∧ cl ≤ 20 := by omega
  have hr1 : 2 ≤ rq ∧ rq ≤ 1001 := by omega
  have hcM : 1 ≤ cl ∧ cl ≤ MM := by unfold MM; omega
  have hrM : 1 ≤ rq ∧ rq < MM := by unfold MM; omega
  replace hcl := hid hcl
  replace hrq := hid hrq
  replace hcM := hid hcM
  replace hrM := hid hrM
  rcases hR : lookP (L.map CV.flat) cl rq 0 with ⟨m, v, x, e⟩
  replace hR := hid hR
  have hlk := look_of _ cl rq 0 v e m x m.length x.length hR.out rfl rfl a n c 0 L w2 rfl hL.out h hn
  obtain ⟨mn, hmn⟩ : ∃ mn, m.length = mn := ⟨_, rfl⟩
  obtain ⟨xn, hxn⟩ : ∃ xn, x.length = xn := ⟨_, rfl⟩
  rw [hmn, hxn] at hlk
  replace hmn := hid hmn
  replace hxn := hid hxn
  refine hlk.mono ?_
  clear hlk
  rintro en w3 ⟨a3, c3, L3, ra3, rc3, rfl, f3, l3, h3, -, b3⟩
  replace f3 := hid f3
  replace l3 := hid l3
  by_cases he : e = 0
  · have hawk : ∀ w4, Below w2.heap.size w2 w4 → Calls Try.prog 15 #[] w4 fun e w' => e = .returned (.bool true) ∧ Below w2.heap.size w2 w' := fun w4 hb => (awake_any w4).mono (fun e w' h => ⟨h.1, bnext hb h.2⟩)
    have de : (e == 0) = true := by simp [he]
    by_cases hv : v = 1
    · have dv : (v == 1) = true := by simp [hv]
      by_cases hlong : (65536 : Int) < rl
      · have dl : decide ((65536 : Int) < (rl : Int)) = true := by simpa using hlong
        replace he := hid he
        replace hv := hid hv
        replace hlong := hid hlong
        go_wp2_with fail
        refine (hawk w3 b3).mono ?_
        rintro e w4 ⟨rfl, b4⟩
        go_wp2
        go_ret
        exact ⟨rfl, b4⟩
      · have dl : decide ((65536 : Int) < (rl : Int)) = false := by simpa using hlong
        subst he hv
        have hlr : rl ≤ 65536 := by omega
        obtain ⟨m', hd, hS⟩ := stays_start (reply := reply) hR.out (by rw [hrl.out]; exact hlr)
        have hm16 : mn ≤ 16 := by
          have := (look_right hR.out).len
          rw [hmn.out] at this
          exact this
        have hdn := done_of m cl rq 0 m' reply m'.length hd rfl a3 mn c3 _ L3 ra rl rc w3 f3.out l3.out h3 hrl.out hrs (hat.below b3) (by omega)
        obtain ⟨mn', hmn'⟩ : ∃ mn', m'.length = mn' := ⟨_, rfl⟩
        rw [hmn'] at hdn
        have hm16' : mn' ≤ 16 := by rw [← hmn']; exact hS.1.len
        replace hd := hid hd
        replace hS := hid hS
        replace hmn' := hid hmn'
        replace hlong := hid hlong
        go_wp2_with fail
        refine hdn.mono ?_
        clear hdn
        rintro en w4 ⟨a4, c4, L4, rfl, f4, l4, h4, b4⟩
        have B4 := bnext b3 b4
        have hI : KeI w2 w4 cl rq reply (.slice a4 mn' c4) := ⟨a4, c4, mn', L4, rfl, l4, hm16', h4.le (Nat.zero_le _), by rw [f4]; exact hS.out, B4⟩
        replace f4 := hid f4
        replace l4 := hid l4
        replace hI := hid hI
        replace h3 := hid h3
        replace h4 := hid h4
        go_wp2_with fail
        go_loopw [11, 16] (fun vm i wr => ∃ j : Nat, j ≤ on ∧ i = .int .i64 (j : Int) ∧ KeI w2 wr cl rq reply vm) (fun _ i _ => on - (intOf i).toNat)
        case atStart => exact ⟨0, Nat.zero_le _, rfl, hI.out⟩
        case round =>
          obtain ⟨j, hj, rfl, a5, c5, n5, L5, rfl, l5, hn5, h5, hS5, B5⟩ := hrel
          replace l5 := hid l5
          replace hS5 := hid hS5
          by_cases hlt : j < on ∧ j < 20
          · obtain ⟨hlt1, hlt2⟩ := hlt
            have d1 : decide ((j : Int) < (on : Int)) = true := by simpa using hlt1
            have d2 : decide ((j : Int) < 20) = true := by simp; omega
            obtain ⟨ob, oo, rfl, hoc⟩ := (ho.below B5) (by omega)
            obtain ⟨z, hz⟩ := hoc j hlt1
            replace hoc := hid hoc
            go_wp2_with fail
            refine (pick_any z 1000003 _ (by omega) (by omega)).mono ?_
            rintro e w6 ⟨⟨p, hp, rfl⟩, rfl⟩
            by_cases hw : 1 + (p : Int) % 20 = cl
            · have dw : (1 + (p : Int) % 20 == cl) = true := by simp [hw]
              by_cases hkn : (p : Int) / 24000 % (1 + (p : Int) / 20 % 1200) ≤ rq - 1
              · have hlt3 : ¬ (rq - 1 < (p : Int) / 24000 % (1 + (p : Int) / 20 % 1200)) := by omega
                replace hw := hid hw
                replace hkn := hid hkn
                go_wp2_with fail
                refine (look_step a5 n5 c5 L5 cl rq _ _ _ reply _ l5.out h5 hn5 hS5.out (fun _ => by have := hkn.out; omega)).mono ?_
                rintro en w7 ⟨a7, c7, n7, L7, v7, ra7, rn7, rc7, e7, rfl, b7, hok⟩
                have B7 := bnext B5 b7
                by_cases he7 : e7 = 0
                · obtain ⟨l7, hn7, h7, hS7, hnew⟩ := hok he7
                  have de7 : (e7 == 0) = true := by simp [he7]
                  by_cases hv7 : v7 = 1
                  · have dv7 : (v7 == 1) = true := by simp [hv7]
                    obtain ⟨m8, hd8, hS8⟩ := hnew hv7
                    have hdn := done_of _ (1 + (p : Int) % 20) (1 + (p : Int) / 20 % 1200) 0 m8 [] m8.length hd8 rfl a7 n7 c7 0 L7 none 0 0 w7 rfl l7 h7 rfl (by omega) (at_nil _ _) (by omega)
                    obtain ⟨n8, hn8⟩ : ∃ n8, m8.length = n8 := ⟨_, rfl⟩
                    rw [hn8] at hdn
                    have hn816 : n8 ≤ 16 := by rw [← hn8]; exact hS8.1.len
                    replace hn8 := hid hn8
                    replace hS8 := hid hS8
                    replace hd8 := hid hd8
                    replace hS7 := hid hS7
                    replace l7 := hid l7
                    replace h7 := hid h7
                    replace hok := hid hok
                    replace hnew := hid hnew
                    replace he7 := hid he7
                    replace hv7 := hid hv7
                    go_wp2_with fail
                    refine hdn.mono ?_
                    clear hdn
                    rintro en w9 ⟨a9, c9, L9, rfl, f9, l9, h9, b9⟩
                    have hI9 : KeI w2 w9 cl rq reply (.slice a9 n8 c9) := ⟨a9, c9, n8, L9, rfl, l9, hn816, h9.le (Nat.zero_le _), by rw [f9]; exact hS8.out, bnext B7 b9⟩
                    replace hI9 := hid hI9
                    replace f9 := hid f9
                    replace l9 := hid l9
                    replace h9 := hid h9
                    go_wp2_with fail
                    go_roundw
                    case rel => exact ⟨j + 1, by omega, by go_num, hI9.out⟩
                    case measure => simp [intOf]; omega
                  · have dv7 : (v7 == 1) = false := by simp [hv7]
                    have hI7 : KeI w2 w7 cl rq reply (.slice a7 n7 c7) := ⟨a7, c7, n7, L7, rfl, l7, hn7, h7, hS7, B7⟩
                    replace hI7 := hid hI7
                    replace hS7 := hid hS7
                    replace l7 := hid l7
                    replace h7 := hid h7
                    replace hok := hid hok
                    replace hnew := hid hnew
                    replace he7 := hid he7
                    replace hv7 := hid hv7
                    go_wp2_with fail
                    go_roundw
                    case rel => exact ⟨j + 1, by omega, by go_num, hI7.out⟩
                    case measure => simp [intOf]; omega
                · have de7 : (e7 == 0) = false := by simp [he7]
                  have hI7 : KeI w2 w7 cl rq reply (.slice a5 n5 c5) := ⟨a5, c5, n5, L5, rfl, l5.out, hn5, h5.below b7, hS5.out, B7⟩
                  replace hI7 := hid hI7
                  replace he7 := hid he7
                  replace hok := hid hok
                  go_wp2_with fail
                  go_roundw
                  case rel => exact ⟨j + 1, by omega, by go_num, hI7.out⟩
                  case measure => simp [intOf]; omega
              · have hlt3 : rq - 1 < (p : Int) / 24000 % (1 + (p : Int) / 20 % 1200) := by omega
                replace hw := hid hw
                replace hkn := hid hkn
                go_wp2_with fail
                refine (look_step a5 n5 c5 L5 cl rq _ _ _ reply _ l5.out h5 hn5 hS5.out (fun _ => by omega)).mono ?_
                rintro en w7 ⟨a7, c7, n7, L7, v7, ra7, rn7, rc7, e7, rfl, b7, hok⟩
                have B7 := bnext B5 b7
                by_cases he7 : e7 = 0
                · obtain ⟨l7, hn7, h7, hS7, hnew⟩ := hok he7
                  have de7 : (e7 == 0) = true := by simp [he7]
                  by_cases hv7 : v7 = 1
                  · have dv7 : (v7 == 1) = true := by simp [hv7]
                    obtain ⟨m8, hd8, hS8⟩ := hnew hv7
                    have hdn := done_of _ (1 + (p : Int) % 20) (1 + (p : Int) / 20 % 1200) 0 m8 [] m8.length hd8 rfl a7 n7 c7 0 L7 none 0 0 w7 rfl l7 h7 rfl (by omega) (at_nil _ _) (by omega)
                    obtain ⟨n8, hn8⟩ : ∃ n8, m8.length = n8 := ⟨_, rfl⟩
                    rw [hn8] at hdn
                    have hn816 : n8 ≤ 16 := by rw [← hn8]; exact hS8.1.len
                    replace hn8 := hid hn8
                    replace hS8 := hid hS8
                    replace hd8 := hid hd8
                    replace hS7 := hid hS7
                    replace l7 := hid l7
                    replace h7 := hid h7
                    replace hok := hid hok
                    replace hnew := hid hnew
                    replace he7 := hid he7
                    replace hv7 := hid hv7
                    go_wp2_with fail
                    refine hdn.mono ?_
                    clear hdn
                    rintro en w9 ⟨a9, c9, L9, rfl, f9, l9, h9, b9⟩
                    have hI9 : KeI w2 w9 cl rq reply (.slice a9 n8 c9) := ⟨a9, c9, n8, L9, rfl, l9, hn816, h9.le (Nat.zero_le _), by rw [f9]; exact hS8.out, bnext B7 b9⟩
                    replace hI9 := hid hI9
                    replace f9 := hid f9
                    replace l9 := hid l9
                    replace h9 := hid h9
                    go_wp2_with fail
                    go_roundw
                    case rel => exact ⟨j + 1, by omega, by go_num, hI9.out⟩
                    case measure => simp [intOf]; omega
                  · have dv7 : (v7 == 1) = false := by simp [hv7]
                    have hI7 : KeI w2 w7 cl rq reply (.slice a7 n7 c7) := ⟨a7, c7, n7, L7, rfl, l7, hn7, h7, hS7, B7⟩
                    replace hI7 := hid hI7
                    replace hS7 := hid hS7
                    replace l7 := hid l7
                    replace h7 := hid h7
                    replace hok := hid hok
                    replace hnew := hid hnew
                    replace he7 := hid he7
                    replace hv7 := hid hv7
                    go_wp2_with fail
                    go_roundw
                    case rel => exact ⟨j + 1, by omega, by go_num, hI7.out⟩
                    case measure => simp [intOf]; omega
                · have de7 : (e7 == 0) = false := by simp [he7]
                  have hI7 : KeI w2 w7 cl rq reply (.slice a5 n5 c5) := ⟨a5, c5, n5, L5, rfl, l5.out, hn5, h5.below b7, hS5.out, B7⟩
                  replace hI7 := hid hI7
                  replace he7 := hid he7
                  replace hok := hid hok
                  go_wp2_with fail
                  go_roundw
                  case rel => exact ⟨j + 1, by omega, by go_num, hI7.out⟩
                  case measure => simp [intOf]; omega
            · have dw : (1 + (p : Int) % 20 == cl) = false := by simp [hw]
              have hw2 := hid hw
              clear hw
              go_wp2_with fail
              refine (look_step a5 n5 c5 L5 cl rq _ _ _ reply _ l5.out h5 hn5 hS5.out (fun e => absurd e hw2.out)).mono ?_
              rintro en w7 ⟨a7, c7, n7, L7, v7, ra7, rn7, rc7, e7, rfl, b7, hok⟩
              have B7 := bnext B5 b7
              by_cases he7 : e7 = 0
              · obtain ⟨l7, hn7, h7, hS7, hnew⟩ := hok he7
                have de7 : (e7 == 0) = true := by simp [he7]
                by_cases hv7 : v7 = 1
                · have dv7 : (v7 == 1) = true := by simp [hv7]
                  obtain ⟨m8, hd8, hS8⟩ := hnew hv7
                  have hdn := done_of _ (1 + (p : Int) % 20) (1 + (p : Int) / 20 % 1200) 0 m8 [] m8.length hd8 rfl a7 n7 c7 0 L7 none 0 0 w7 rfl l7 h7 rfl (by omega) (at_nil _ _) (by omega)
                  obtain ⟨n8, hn8⟩ : ∃ n8, m8.length = n8 := ⟨_, rfl⟩
                  rw [hn8] at hdn
                  have hn816 : n8 ≤ 16 := by rw [← hn8]; exact hS8.1.len
                  replace hn8 := hid hn8
                  replace hS8 := hid hS8
                  replace hd8 := hid hd8
                  replace hS7 := hid hS7
                  replace l7 := hid l7
                  replace h7 := hid h7
                  replace hok := hid hok
                  replace hnew := hid hnew
                  replace he7 := hid he7
                  replace hv7 := hid hv7
                  go_wp2_with fail
                  refine hdn.mono ?_
                  clear hdn
                  rintro en w9 ⟨a9, c9, L9, rfl, f9, l9, h9, b9⟩
                  have hI9 : KeI w2 w9 cl rq reply (.slice a9 n8 c9) := ⟨a9, c9, n8, L9, rfl, l9, hn816, h9.le (Nat.zero_le _), by rw [f9]; exact hS8.out, bnext B7 b9⟩
                  replace hI9 := hid hI9
                  replace f9 := hid f9
                  replace l9 := hid l9
                  replace h9 := hid h9
                  go_wp2_with fail
                  go_roundw
                  case rel => exact ⟨j + 1, by omega, by go_num, hI9.out⟩
                  case measure => simp [intOf]; omega
                · have dv7 : (v7 == 1) = false := by simp [hv7]
                  have hI7 : KeI w2 w7 cl rq reply (.slice a7 n7 c7) := ⟨a7, c7, n7, L7, rfl, l7, hn7, h7, hS7, B7⟩
                  replace hI7 := hid hI7
                  replace hS7 := hid hS7
                  replace l7 := hid l7
                  replace h7 := hid h7
                  replace hok := hid hok
                  replace hnew := hid hnew
                  replace he7 := hid he7
                  replace hv7 := hid hv7
                  go_wp2_with fail
                  go_roundw
                  case rel => exact ⟨j + 1, by omega, by go_num, hI7.out⟩
                  case measure => simp [intOf]; omega
              · have de7 : (e7 == 0) = false := by simp [he7]
                have hI7 : KeI w2 w7 cl rq reply (.slice a5 n5 c5) := ⟨a5, c5, n5, L5, rfl, l5.out, hn5, h5.below b7, hS5.out, B7⟩
                replace hI7 := hid hI7
                replace he7 := hid he7
                replace hok := hid hok
                go_wp2_with fail
                go_roundw
                case rel => exact ⟨j + 1, by omega, by go_num, hI7.out⟩
                case measure => simp [intOf]; omega
          · have hj2 : ¬ (j < on) ∨ ¬ (j < 20) := by omega
            obtain ⟨mo, hold⟩ := stays_old hS5.out hcM.out ⟨by omega, by have := hrM.out; omega⟩
            obtain ⟨mz, vz, xz, hend, hvz, mz', hst⟩ := stays_end hS5.out hcM.out hrM.out
            have hl1 := fun W hb => look_of _ cl rq 0 2 0 mo reply mo.length rl hold rfl hrl.out a5 n5 c5 0 L5 W rfl l5.out (h5.below hb) (by omega)
            have hl2 := fun W hb => look_of _ cl (rq + 1) rq vz 0 mz xz mz.length xz.length hend rfl rfl a5 n5 c5 0 L5 W rfl l5.out (h5.below hb) (by omega)
            have hz16 : mz.length ≤ 16 := (look_right hend).len
            replace hl1 := hid hl1
            replace hl2 := hid hl2
            obtain ⟨u1, hu1⟩ : ∃ u, mo.length = u := ⟨_, rfl⟩
            obtain ⟨u2, hu2⟩ : ∃ u, mz.length = u := ⟨_, rfl⟩
            obtain ⟨u3, hu3⟩ : ∃ u, xz.length = u := ⟨_, rfl⟩
            obtain ⟨u4, hu4⟩ : ∃ u, mz'.length = u := ⟨_, rfl⟩
            rw [hu1] at hl1
            rw [hu2, hu3] at hl2
            rw [hu2] at hz16
            have hl3 := fun (b6 : Nat) (c6 : Nat) (a6 : Option Addr) (L6 : List CV) W (f6 : L6.map CV.flat = mz) l6 (h6 : LAt W b6 a6 L6) => look_of mz cl rq 0 3 0 mz' [] u4 0 hst hu4 rfl a6 u2 c6 b6 L6 W f6 l6 h6 (by omega)
            replace hl3 := hid hl3
            replace hold := hid hold
            replace hend := hid hend
            replace hst := hid hst
            replace hu1 := hid hu1
            replace hu2 := hid hu2
            replace hu3 := hid hu3
            replace hu4 := hid hu4
            have dvz : (vz == 3) = false := by simp [hvz]
            replace hvz := hid hvz
            have hcond : ¬ (j < on) ∨ (j < on ∧ ¬ (j < 20)) := by omega
            replace hlt := hid hlt
            replace hj2 := hid hj2
            rcases hcond with d1 | ⟨d1, d2⟩
            · have d3 : decide ((j : Int) < (on : Int)) = false := by simpa using d1
              go_wp2_with fail
              refine (hl1.out _ (Below.refl _ _)).mono ?_
              rintro en w7 ⟨a7, c7, L7, ra7, rc7, rfl, -, -, -, t7, b7⟩
              have B7 := bnext B5 b7
              have hsm := same_any ra7 ra rl rl rc7 rc reply reply w7 hrl.out hrl.out t7 (hat.below B7) rfl
              go_wp2_with fail
              refine hsm.mono ?_
              rintro e w8 ⟨rfl, rfl⟩
              have hll := hl2.out _ b7
              go_wp2_with fail
              refine hll.mono ?_
              clear hll
              rintro en w9 ⟨a9, c9, L9, ra9, rc9, rfl, f9, l9, h9, -, b9⟩
              have B9 := bnext B7 b9
              have hll := hl3.out _ c9 a9 L9 _ f9 l9 h9
              replace f9 := hid f9
              replace l9 := hid l9
              replace h9 := hid h9
              go_wp2_with fail
              refine hll.mono ?_
              clear hll
              rintro en w10 ⟨a10, c10, L10, ra10, rc10, rfl, -, -, -, -, b10⟩
              have B10 := bnext B9 b10
              go_wp2_with fail
              refine (awake_any _).mono ?_
              rintro e w11 ⟨rfl, b11⟩
              go_wp2
              go_ret
              exact ⟨rfl, bnext B10 b11⟩
            · have d3 : decide ((j : Int) < (on : Int)) = true := by simpa using d1
              have d4 : ¬ ((j : Int) < 20) := by omega
              have d5 : decide ((j : Int) < 20) = false := by simpa using d4
              go_wp2_with fail
              refine (hl1.out _ (Below.refl _ _)).mono ?_
              rintro en w7 ⟨a7, c7, L7, ra7, rc7, rfl, -, -, -, t7, b7⟩
              have B7 := bnext B5 b7
              have hsm := same_any ra7 ra rl rl rc7 rc reply reply w7 hrl.out hrl.out t7 (hat.below B7) rfl
              go_wp2_with fail
              refine hsm.mono ?_
              rintro e w8 ⟨rfl, rfl⟩
              have hll := hl2.out _ b7
              go_wp2_with fail
              refine hll.mono ?_
              clear hll
              rintro en w9 ⟨a9, c9, L9, ra9, rc9, rfl, f9, l9, h9, -, b9⟩
              have B9 := bnext B7 b9
              have hll := hl3.out _ c9 a9 L9 _ f9 l9 h9
              replace f9 := hid f9
              replace l9 := hid l9
              replace h9 := hid h9
              go_wp2_with fail
              refine hll.mono ?_
              clear hll
              rintro en w10 ⟨a10, c10, L10, ra10, rc10, rfl, -, -, -, -, b10⟩
              have B10 := bnext B9 b10
              go_wp2_with fail
              refine (awake_any _).mono ?_
              rintro e w11 ⟨rfl, b11⟩
              go_wp2
              go_ret
              exact ⟨rfl, bnext B10 b11⟩
    · have dv : (v == 1) = false := by simp [hv]
      replace he := hid he
      replace hv := hid hv
      go_wp2_with fail
      refine (hawk w3 b3).mono ?_
      rintro e w4 ⟨rfl, b4⟩
      go_wp2
      go_ret
      exact ⟨rfl, b4⟩
  · have de : (e == 0) = false := by simp [he]
    replace he := hid he
    go_wp2_with fail
    refine (awake_any w3).mono ?_
    rintro e w4 ⟨rfl, b4⟩
    go_wp2
    go_ret
    exact ⟨rfl, bnext b3 b4⟩

end Go.Proofs.Ythjggjjocfbjcaa
