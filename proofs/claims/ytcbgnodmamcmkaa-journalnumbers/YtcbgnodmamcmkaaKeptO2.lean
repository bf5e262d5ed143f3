/- JournalKept: Open upon good files. -/
import Derived.Test.YtcbgnodmamcmkaaKeptO
namespace Go.Proofs.Ytcbgnodmamcmkaa
open Go.RowKit

section
variable {st : Nat → List UInt8}

/-- The records that are told, where the log has none. -/
theorem recs_none {n₀ base : Nat} {w w' : World} {p : Nat} {x x' : Dx} {l body : List UInt8} {d' : Dsk} {M SF BN Lst gj : Nat} {sa : Option Addr} {sc : Nat} {v : Value} (_hn : n₀ = 0) (h : OpenAt base w w' p x x' l body d' M SF BN 0 Lst gj [] sa sc v) :
    ∃ (ra : Option Addr) (rc : Nat), v = .slice ra ([] : List Rm).length rc ∧ RAt w' ra [] := by
  obtain ⟨xs, a, hx, hb, _, _⟩ := h.recs
  have hxs : xs = [] := by simpa using hx
  subst hxs
  obtain ⟨a', c', h1, h2, h3, _⟩ := hb
  refine ⟨a', c', ?_, CAt.nil _ _, fun i hi => by cases hi⟩
  rw [h1]
  rfl

/-- The records that are told: those above the state. -/
theorem recs_some {base : Nat} {w w' : World} {p : Nat} {x x' : Dx} {l body : List UInt8} {d' : Dsk} {q SF BN n Lst gj a m : Nat} {sa : Option Addr} {sc : Nat} {v : Value} {all : List KB} {z : List UInt8} (hsm : ∀ r ∈ all, r.2.length ≤ 65536) (hall : all.length ≤ 1000000)
    (haq : a ≤ q) (hqm : q ≤ m) (hm : m ≤ all.length) (hl : l = logB (a + 1) (seg all a m) ++ z) (hn : n = (logP 0 (seg all a m)).length) (h : OpenAt base w w' p x x' l body d' q SF BN n Lst gj (logP 0 (seg all a m)) sa sc v) :
    ∃ (rs : List Rm) (ra : Option Addr) (rc : Nat), v = .slice ra rs.length rc ∧ rs.length ≤ rc ∧ RAt w' ra rs ∧ rs.map Rm.plain = plainL (q + 1) (seg all q m) := by
  obtain ⟨xs, ad, hx, hb, hok, _⟩ := h.recs
  obtain ⟨a', c', h1, h2, h3, _⟩ := hb
  have hsl := seg_len (all := all) (a := a) hm
  have hpl := rx_plain (seg all a m) (a + 1) [] z xs (seg_small hsm a m) (by omega) (by simpa using hx)
  rw [List.nil_append, ← hl] at hpl
  have hxl : xs.length = m - a := by
    have := congrArg List.length hx
    rw [List.length_map, logP_len, hsl] at this
    exact this
  have hnum : ∀ i (hi : i < xs.length), numAt l xs[i].p = a + 1 + i := fun i hi => by
    have h5 : (logP 0 (seg all a m))[i]'(by rw [logP_len, hsl]; omega) = xs[i].p := by
      have : (xs.map (·.p))[i]'(by simpa using hi) = xs[i].p := by simp
      rw [← this]
      congr 1
      exact hx.symm
    have h6 := place_num (seg all a m) (a + 1) [] z (seg_small hsm a m) (by omega) i (by simp only [List.length_nil]; rw [logP_len, hsl]; omega)
    simp only [List.length_nil, List.nil_append] at h6
    rw [h5, ← hl] at h6
    exact h6
  have hsk : skipOf l q xs = q - a := skip_at l q xs (q - a) (by omega) (fun i hi hlt => by rw [hnum i hi]; omega) (fun hlt => by rw [hnum _ hlt]; omega)
  rw [hsk] at h1 h2 h3
  have hnn : n = m - a := by rw [hn, logP_len, hsl]
  refine ⟨(xs.drop (q - a)).map (RX.rm l), a', c', ?_, ?_, rx_rat (fun y hy => hok y (List.mem_of_mem_drop hy)) h3, ?_⟩
  · rw [h1, List.length_map, List.length_drop, hxl, hnn]
  · rw [List.length_map, List.length_drop, hxl]; omega
  · rw [List.map_drop, List.map_drop, hpl, plainL_drop, seg_drop haq, show a + 1 + (q - a) = q + 1 by omega]

theorem max_l {q m : Nat} (h : m ≤ q) : max q m = q := by omega
theorem max_r {q m : Nat} (h : q ≤ m) : max q m = m := by omega

theorem open_k (base p : Nat) (x : Dx) (d : Dsk) (all : List KB) (lo : Nat) (w : World) (hs : Sole base w p x d) (hbase : base ≤ w.heap.size) (hup : d.down = false) (hops : d.ops = []) (hg : Good st d.cur all lo) (hsm : ∀ r ∈ all, r.2.length ≤ 65536) (hall : all.length ≤ 1000000) (hst : ∀ q, (st q).length ≤ 1000) :
    Calls Try.prog 12 #[.pointer (some ⟨p, 0, none⟩)] w fun e w' => OpenK st base w p x d all lo e w' := by
  have hi := hs.inv
  have hout : Outs st d all lo := fun k t => by
    rw [hops, kept_out (by simp)]
    refine hg.congr (fun i hi3 => ?_)
    have := hi.now i hi3
    rw [hops] at this
    exact this.symm
  have hopl : d.ops.length + 1 ≤ 1000000 := by rw [hops]; simp
  have hop0 : d.ops.length = 0 := by rw [hops]; rfl
  obtain ⟨f, q, hv, a, m, z, hS, haq, hqn, ham, hmn, hlog, hstop, hlo⟩ := hg
  obtain ⟨hM, hB, hS2⟩ := hS.found hst (by omega)
  have hq0 : hv = false → q = 0 := fun e => by subst e; have := hS.2; rw [if_neg (by simp)] at this; exact this.1
  have hsl := seg_len (all := all) (a := a) hmn
  have hge := logB_ge (seg all a m) (a + 1)
  have hlen0 : (d.cur 0).length = (logB (a + 1) (seg all a m)).length + z.length := by rw [hlog, List.length_append]
  have hps : opPs d = logP 0 (seg all a m) := by
    unfold opPs
    rw [hlog]
    have := poss_log (seg all a m) ((logB (a + 1) (seg all a m) ++ z).length + 1) (a + 1) 0 [] z (seg_small hsm a m) (by omega) (by omega) (.inl rfl) (by rw [List.length_append]; omega) (by simp only [List.nil_append, List.length_nil, Nat.zero_add]; exact hstop _)
    simpa using this
  obtain ⟨BD, hBD⟩ : ∃ BD, BD = (if hv = true then st q else []) := ⟨_, rfl⟩
  -- an emptied log
  have hgE : m ≤ q → Good st (cutF d.cur 0) all lo := fun hmq =>
    ⟨f, q, hv, q, q, [], hS.congr (by simp [cutF]) (by simp [cutF]), Nat.le_refl _, hqn, Nat.le_refl _, hqn, by simp [cutF, seg_same, logB], fun nx => by rw [seg_same]; exact no_stand_nil [] nx, .inl (by omega)⟩
  have hlE : ∀ d' : Dsk, d'.cur = cutF d.cur 0 → d'.ops = [] → d'.Inv → m ≤ q → Life st (all.take (max q m)) ⟨d', max q m, max q m, opFile d, false⟩ := fun d' h1 h2 h3 hmq => by
    rw [max_l hmq]
    refine clean_life (a' := q) (q := q) (hv := hv) (hS2.congr (by rw [h1]; simp [cutF]) (by rw [h1]; simp [cutF])) (Nat.le_refl _) (Nat.le_refl _) hqn ?_ h2 h3 hsm
    rw [h1]; simp [cutF, seg_same, logB]
  have errK : ∀ (D : Dsk) (E : Int), D.ops.length ≤ d.ops.length + 1 → Outs st D all lo → ¬ Free d → ∀ e w', (e = .returned (.tuple #[.pointer none, .slice none 0 0, .slice none 0 0, .int .i64 E]) ∧ ∃ x', Sole base w' p x' D ∧ Grow w p x x' ∧ Kp (Turn p x) w w') → OpenK st base w p x d all lo e w' := fun D E h0 h1 h2 e w' h => by
    obtain ⟨he, x', k1, k2, k3⟩ := h
    exact .inr ⟨E, x', D, h2, he, k1, h1, by omega, k2, k3⟩
  have hseg0 : m ≤ q → plainL (q + 1) (seg all q m) = [] := fun h => by unfold seg; rw [show m - q = 0 by omega]; simp [plainL]
  by_cases hA : a < m
  · have hne : seg all a m ≠ [] := fun e => by rw [e] at hsl; simp at hsl; omega
    have hst2 : stopP (d.cur 0) (opPs d) = (logB (a + 1) (seg all a m)).length := by
      rw [hps, hlog]
      have := stop_log (seg all a m) (a + 1) [] z (seg_small hsm a m) hne
      simpa using this
    have hpl : (opPs d).length = m - a := by rw [hps, logP_len, hsl]
    have hP : ∀ h : 0 < (opPs d).length, a + 1 = numAt (d.cur 0) (opPs d)[0] := fun h => by
      have := place_num (seg all a m) (a + 1) [] z (seg_small hsm a m) (by omega) 0 (by simp only [List.length_nil]; rw [logP_len, hsl]; omega)
      simp only [List.length_nil, List.nil_append] at this
      simp only [hps, hlog]
      rw [this]
    have hQ : ∀ h : m - a - 1 < (opPs d).length, m = numAt (d.cur 0) (opPs d)[m - a - 1] := fun h => by
      have := place_num (seg all a m) (a + 1) [] z (seg_small hsm a m) (by omega) (m - a - 1) (by simp only [List.length_nil]; rw [logP_len, hsl]; omega)
      simp only [List.length_nil, List.nil_append] at this
      simp only [hps, hlog]
      rw [this]
      omega
    by_cases hqm : q ≤ m
    · -- records that reach the state
      obtain ⟨S, hSS⟩ : ∃ S, S = (logB (a + 1) (seg all a m)).length := ⟨_, rfl⟩
      have hgC : Good st (cutF d.cur S) all lo := by
        refine ⟨f, q, hv, a, m, [], hS.congr (by simp [cutF]) (by simp [cutF]), haq, hqn, ham, hmn, ?_, fun nx => no_stand_nil _ nx, hlo⟩
        simp only [cutF, if_true]
        rw [hlog, hSS, List.take_left, List.append_nil]
      have hlC : ∀ d' : Dsk, d'.cur 0 = logB (a + 1) (seg all a m) → d'.cur 1 = d.cur 1 → d'.cur 2 = d.cur 2 → d'.ops = [] → d'.Inv → Life st (all.take (max q m)) ⟨d', max q m, max q m, opFile d, false⟩ := fun d' h0 h1 h2 h3 h4 => by
        rw [max_r hqm]
        exact clean_life (a' := a) (q := q) (hv := hv) (hS2.congr h1 h2) haq hqm hmn h0 h3 h4 hsm
      have okK : ∀ d' : Dsk, d'.cur 0 = logB (a + 1) (seg all a m) → d'.cur 1 = d.cur 1 → d'.cur 2 = d.cur 2 → d'.ops = [] → d'.Inv → (Free d → Free d') → ∀ e w', (∃ (gj : Nat) (sa : Option Addr) (sc : Nat) (v : Value) (x' : Dx), e = .returned (.tuple #[.pointer (some ⟨gj, 0, none⟩), .slice sa BD.length sc, v, .int .i64 0]) ∧ OpenAt base w w' p x x' (d.cur 0) BD d' q (opFile d) BD.length (m - a) m gj (opPs d) sa sc v) → OpenK st base w p x d all lo e w' := fun d' h0 h1 h2 h3 h4 h5 e w' h => by
        obtain ⟨gj, sa, sc, v, x', he, hO⟩ := h
        rw [hps] at hO
        obtain ⟨rs, ra, rc, k1, k2, k3, k4⟩ := recs_some hsm hall haq hqm hmn hlog (by rw [logP_len, hsl]) hO
        have hjr := hO.jr
        have hlf := hlC d' h0 h1 h2 h3 h4
        refine .inl ⟨gj, sa, sc, v, x', d', opFile d, q, m, hv, rs, ra, rc, by rw [← hBD]; exact he, by rw [max_r hqm]; exact hjr, hO.fresh, by rw [← hBD]; exact hO.own, hq0, k1, k2, k3, k4, by omega, hqn, hmn, hlf, h3, h5, hO.grow, hO.kp⟩
      by_cases hz : z = []
      · subst hz
        rw [List.append_nil] at hlog
        refine (open_good_no base p x d w q (opFile d) BD.length (d.cur 0).length (m - a) S (a + 1) m BD hs hup hM.symm rfl (by rw [hBD]; exact hB.symm) rfl rfl hpl.symm (by rw [hSS]; exact hst2.symm) (by omega) (by omega) hP hQ (by omega) hqm (by rw [hlen0, hSS]; simp)).mono (fun e w' h => okK d hlog rfl rfl hops hi (fun h => h) e w' h)
      · have hzl : 0 < z.length := List.length_pos_iff.2 hz
        obtain ⟨c1, c2, c3, c4⟩ := cs_plain (sz := S) (by omega) hi hout hgC
        by_cases hE : d.csE S = 0
        · obtain ⟨o1, o2, o3⟩ := c1 hE
          refine (open_good_ok base p x d w q (opFile d) BD.length (d.cur 0).length (m - a) S (a + 1) m BD (d.csD S) hs hbase hopl hup hM.symm rfl (by rw [hBD]; exact hB.symm) rfl rfl hpl.symm (by rw [hSS]; exact hst2.symm) (by omega) (by omega) hP hQ (by omega) hqm (by omega) rfl hE).mono (fun e w' h => okK (d.csD S) (by rw [o2]; simp only [cutF, if_true]; rw [hlog, hSS, List.take_left]) (by rw [o2]; simp [cutF]) (by rw [o2]; simp [cutF]) o1 c2 o3 e w' h)
        · exact (open_good_err base p x d w q (opFile d) BD.length (d.cur 0).length (m - a) S (a + 1) m BD (d.csD S) (d.csE S) hs hbase hopl hup hM.symm rfl (by rw [hBD]; exact hB.symm) rfl rfl hpl.symm (by rw [hSS]; exact hst2.symm) (by omega) (by omega) hP hQ (by omega) hqm (by omega) rfl rfl hE).mono (errK (d.csD S) (d.csE S) (csD_few _ _) c3 (fun h => hE (c4 h)))
    · -- records that end below it
      have hmq : m ≤ q := by omega
      obtain ⟨c1, c2, c3, c4⟩ := cs_plain (sz := 0) (by omega) hi hout (hgE hmq)
      by_cases hE : d.csE (0 : Nat) = 0
      · obtain ⟨o1, o2, o3⟩ := c1 hE
        refine (open_low_ok base p x d w q (opFile d) BD.length (d.cur 0).length (m - a) (logB (a + 1) (seg all a m)).length (a + 1) m BD (d.csD (0 : Nat)) hs hbase hopl hup hM.symm rfl (by rw [hBD]; exact hB.symm) rfl rfl hpl.symm hst2.symm (by omega) (by omega) hP hQ (by omega) (by omega) (by omega) rfl hE).mono ?_
        rintro e w' ⟨gj, sa, sc, v, x', he, hO⟩
        obtain ⟨ra, rc, k1, k3⟩ := recs_none rfl hO
        have hjr := hO.jr
        exact .inl ⟨gj, sa, sc, v, x', d.csD (0 : Nat), opFile d, q, m, hv, [], ra, rc, by rw [← hBD]; exact he, by rw [max_l hmq]; exact hjr, hO.fresh, by rw [← hBD]; exact hO.own, hq0, k1, by simp, k3, by rw [hseg0 hmq]; rfl, by omega, hqn, hmn, hlE _ o2 o1 c2 hmq, o1, o3, hO.grow, hO.kp⟩
      · exact (open_low_err base p x d w q (opFile d) BD.length (d.cur 0).length (m - a) (logB (a + 1) (seg all a m)).length (a + 1) m BD (d.csD (0 : Nat)) (d.csE (0 : Nat)) hs hbase hopl hup hM.symm rfl (by rw [hBD]; exact hB.symm) rfl rfl hpl.symm hst2.symm (by omega) (by omega) hP hQ (by omega) (by omega) (by omega) rfl rfl hE).mono (errK (d.csD (0 : Nat)) (d.csE (0 : Nat)) (csD_few _ _) c3 (fun h => hE (c4 h)))
  · have hma : m = a := by omega
    subst hma
    have hmq : m ≤ q := haq
    have hps0 : opPs d = [] := by rw [hps, seg_same]; rfl
    have okE : ∀ d' : Dsk, d'.cur = cutF d.cur 0 → d'.ops = [] → d'.Inv → (Free d → Free d') → ∀ e w', (∃ (gj : Nat) (sa : Option Addr) (sc : Nat) (v : Value) (x' : Dx), e = .returned (.tuple #[.pointer (some ⟨gj, 0, none⟩), .slice sa BD.length sc, v, .int .i64 0]) ∧ OpenAt base w w' p x x' (d.cur 0) BD d' q (opFile d) BD.length 0 q gj [] sa sc v) → OpenK st base w p x d all lo e w' := fun d' h1 h2 h3 h4 e w' h => by
      obtain ⟨gj, sa, sc, v, x', he, hO⟩ := h
      obtain ⟨ra, rc, k1, k3⟩ := recs_none rfl hO
      have hjr := hO.jr
      exact .inl ⟨gj, sa, sc, v, x', d', opFile d, q, m, hv, [], ra, rc, by rw [← hBD]; exact he, by rw [max_l hmq]; exact hjr, hO.fresh, by rw [← hBD]; exact hO.own, hq0, k1, by simp, k3, by rw [hseg0 hmq]; rfl, by omega, hqn, hmn, hlE d' h1 h2 h3 hmq, h2, h4, hO.grow, hO.kp⟩
    by_cases hz : (d.cur 0).length = 0
    · have hcf : d.cur = cutF d.cur 0 := by
        funext i
        simp only [cutF]
        by_cases h : i = 0
        · subst h; rw [List.eq_nil_of_length_eq_zero hz]; simp
        · simp [h]
      exact (open_empty_no base p x d w q (opFile d) BD.length (d.cur 0).length BD hs hup hM.symm rfl (by rw [hBD]; exact hB.symm) rfl rfl hps0 (by omega)).mono (fun e w' h => okE d hcf hops hi (fun h => h) e w' h)
    · obtain ⟨c1, c2, c3, c4⟩ := cs_plain (sz := 0) (by omega) hi hout (hgE hmq)
      by_cases hE : d.csE (0 : Nat) = 0
      · obtain ⟨o1, o2, o3⟩ := c1 hE
        exact (open_empty_ok base p x d w q (opFile d) BD.length (d.cur 0).length BD (d.csD (0 : Nat)) hs hbase hopl hup hM.symm rfl (by rw [hBD]; exact hB.symm) rfl rfl hps0 (by omega) rfl hE).mono (fun e w' h => okE (d.csD (0 : Nat)) o2 o1 c2 o3 e w' h)
      · exact (open_empty_err base p x d w q (opFile d) BD.length (d.cur 0).length BD (d.csD (0 : Nat)) (d.csE (0 : Nat)) hs hbase hopl hup hM.symm rfl (by rw [hBD]; exact hB.symm) rfl rfl hps0 (by omega) rfl rfl hE).mono (errK (d.csD (0 : Nat)) (d.csE (0 : Nat)) (csD_few _ _) c3 (fun h => hE (c4 h)))
end
end Go.Proofs.Ytcbgnodmamcmkaa
