/- FieldReads's walk: All answers as the document defines. -/
import Derived.Test.YtkkdiciadkcmmaaRefAll
namespace Go.Proofs.Ytkkdiciadkcmmaa
open Go.RowKit

theorem reads_one {l : List UInt8} {s t : List It} (h1 : Reads l (fds s)) (h2 : Reads l (fds t)) (f1 : ∀ i ∈ s, Fits i.fd) (f2 : ∀ i ∈ t, Fits i.fd) : fds s = fds t := by
  have g : ∀ (r : List It), (∀ i ∈ r, Fits i.fd) → ∀ f ∈ fds r, Fits f := fun r hr f hf => by
    obtain ⟨i, hi, rfl⟩ := List.mem_map.1 hf
    exact hr i hi
  have e1 := reads_tkAll h1 (g s f1)
  have e2 := reads_tkAll h2 (g t f2)
  rw [e1] at e2
  exact congrArg Prod.fst e2

theorem reads_short {l : List UInt8} {s : List It} (h : Reads l (fds s)) : s.length ≤ 64 ∧ ∀ i ∈ s, Short i := by
  have hr := (right_iff s).1 h.1
  refine ⟨hr.1, fun i hi => ?_⟩
  obtain ⟨q, hq, rfl⟩ := List.getElem_of_mem hi
  have hg := (hr.2 q hq).1
  unfold Short
  rcases hg with ⟨_, _, _, h1, h2⟩ | ⟨_, _, _, _, h1, h2⟩ | ⟨_, _, _, _, h1, h2⟩ | ⟨_, _, _, h1, _, h2, _⟩
  · rw [h1, h2]; simp
  · rw [h1, h2]; simp
  · rw [h2]; simp; omega
  · rw [h1]; simp; omega

set_option maxRecDepth 100000 in
set_option maxHeartbeats 4000000 in
theorem reads_any (a : Option Addr) (len cap : Nat) (l : List UInt8) (w : World) (hl : l.length = len) (hlen : len ≤ 140737488355328) (hcap : len ≤ cap) (hat : At w a l) :
    Calls Try.prog 5 #[.slice a len cap] w fun e w' => e = .returned (.bool true) ∧ Below w.heap.size w w' := by
  by_cases h7 : 70000 < len
  · go_enter Try.func5, Try.ntmps5
    go_wp2_with fail
    refine (awake_any _).mono ?_
    rintro e w1 ⟨rfl, hb1⟩
    go_wp2
    go_ret
    exact ⟨rfl, hb1⟩
  · have h7' : len ≤ 70000 := by omega
    go_enter Try.func5, Try.ntmps5
    go_wp2_with fail
    refine (lent_any a cap len l _ hl hlen hat).mono ?_
    rintro e w1 ⟨g, c, rfl, hc, hat1, hb1⟩
    go_wp2_with fail
    refine (all_any (some ⟨g, 0, none⟩) len c l _ hl (by omega) (At.head hat1)).mono ?_
    rintro e w2 ⟨hA, hb2⟩
    replace hat1 := hat1.below hb2
    have hb2' := bnext hb1 hb2
    rcases hA with ⟨a2, c2, its, rfl, hr, hf⟩ | ⟨rfl, hno⟩
    · go_wp2_with fail
      refine (refall_any a len cap l _ hl (by omega) hcap (hat.below hb2')).mono ?_
      rintro e w3 ⟨hB, hb3⟩
      replace hat1 := hat1.below hb3
      replace hf := hf.below hb3
      have hb3' := bnext hb2' hb3
      rcases hB with ⟨a3, c3, its3, rfl, hr3, hf3⟩ | ⟨rfl, hno3⟩
      · have he := reads_one hr hr3 (fun i hi => (hf.2 i hi).fit) (fun i hi => (hf3.2 i hi).fit)
        have hs := reads_short hr
        have hs3 := reads_short hr3
        replace hr := hid hr
        replace hr3 := hid hr3
        have hcs := samefields_yes a2 a3 its.length its3.length c2 c3 its its3 w3 rfl rfl (by omega) hf hf3 hs.2 he
        have heh := hid he
        clear he
        generalize its.length = n1 at *
        generalize its3.length = n3 at *
        go_wp2_with fail
        refine hcs.mono ?_
        rintro e w4 ⟨rfl, hb4⟩
        have hb4' := bnext hb3' hb4
        go_wp2_with fail
        refine (kept_any g c cap len a l _ hl hlen hc (hat1.below hb4) (hat.below hb4')).mono ?_
        rintro e w5 ⟨rfl, rfl⟩
        go_wp2_with fail
        refine (awake_any _).mono ?_
        rintro e w6 ⟨rfl, hb6⟩
        go_wp2
        go_ret
        exact ⟨rfl, bnext hb4' hb6⟩
      · exact absurd (fun f hf' => by obtain ⟨i, hi, rfl⟩ := List.mem_map.1 hf'; exact (hf.2 i hi).fit) (hno3 _ hr)
    · go_wp2_with fail
      refine (refall_any a len cap l _ hl (by omega) hcap (hat.below hb2')).mono ?_
      rintro e w3 ⟨hB, hb3⟩
      replace hat1 := hat1.below hb3
      have hb3' := bnext hb2' hb3
      rcases hB with ⟨a3, c3, its3, rfl, hr3, hf3⟩ | ⟨rfl, hno3⟩
      · exact absurd (fun f hf' => by obtain ⟨i, hi, rfl⟩ := List.mem_map.1 hf'; exact (hf3.2 i hi).fit) (hno _ hr3)
      · replace hno := hid hno
        replace hno3 := hid hno3
        go_wp2_with fail
        refine (samefields_yes none none 0 0 0 0 [] [] _ rfl rfl (by omega) ⟨CAt.nil _ _, fun i hi => absurd hi (by simp)⟩ ⟨CAt.nil _ _, fun i hi => absurd hi (by simp)⟩ (fun i hi => absurd hi (by simp)) rfl).mono ?_
        rintro e w4 ⟨rfl, hb4⟩
        have hb4' := bnext hb3' hb4
        go_wp2_with fail
        refine (kept_any g c cap len a l _ hl hlen hc (hat1.below hb4) (hat.below hb4')).mono ?_
        rintro e w5 ⟨rfl, rfl⟩
        go_wp2_with fail
        refine (awake_any _).mono ?_
        rintro e w6 ⟨rfl, hb6⟩
        go_wp2
        go_ret
        exact ⟨rfl, bnext hb4' hb6⟩
end Go.Proofs.Ytkkdiciadkcmmaa
