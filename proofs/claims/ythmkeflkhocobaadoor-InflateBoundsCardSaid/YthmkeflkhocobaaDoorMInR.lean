/-
  Layer 13, inflate: what was read when it stops, piece by piece: plain. No program. No conditions beyond what each theorem names.
-/
import Derived.Test.YthmkeflkhocobaaDoorMInP
namespace Go.Proofs.YthmkeflkhocobaaDoor.Inf
open Go.RowKit Go.Proofs.YthmkeflkhocobaaDoor.Kit Go.Proofs.YthmkeflkhocobaaDoor.Bits Go.Proofs.YthmkeflkhocobaaDoor.Huf Go.Proofs.YthmkeflkhocobaaDoor.Df

theorem bindG_inv {α β : Type} {g : G α} {f : α → G β} {b : List Int} {p r : Nat} {c : β} (h : bindG g f b p = .ok c r) : ∃ a q, g b p = .ok a q ∧ f a b q = .ok c r := by
  cases hg : g b p with
  | miss => rw [bindG_miss f hg] at h; cases h
  | bad e => rw [bindG_bad f hg] at h; cases h
  | ok a q => rw [bindG_ok f hg] at h; exact ⟨a, q, rfl, h⟩
theorem refG_inv {is : Bool} {why : Int} {b : List Int} {p q : Nat} {u : Unit} (h : refG is why b p = .ok u q) : is = false ∧ q = p := by
  cases is
  · rw [refG_no] at h; injection h with _ h2; exact ⟨rfl, h2.symm⟩
  · rw [refG_yes] at h; cases h
theorem numG_inv {n : Nat} {b : List Int} {p q : Nat} {v : Int} (hb : Bit b) (h : numG n b p = .ok v q) : q = p + n ∧ q ≤ b.length ∧ 0 ≤ v ∧ v < 2 ^ n ∧ v = val ((b.drop p).take n) := by
  unfold numG at h
  by_cases hl : p + n ≤ b.length
  · rw [if_pos hl] at h
    injection h with h1 h2
    have hv := val_bd ((hb.drop p).take n)
    rw [List.length_take, List.length_drop, Nat.min_eq_left (by omega)] at hv
    exact ⟨h2.symm, by omega, by omega, by omega, h1.symm⟩
  · rw [if_neg hl] at h; cases h
theorem symG_inv {l b : List Int} {p q : Nat} {s : Int} (h : symG l b p = .ok s q) : ∃ n, told l (b.drop p) = .sym s n ∧ q = p + n ∧ 1 ≤ n ∧ n ≤ 15 := by
  rw [symG_eq] at h
  cases ht : told l (b.drop p) with
  | sym s' n =>
    rw [ht] at h
    injection h with h1 h2
    have := told_le ht
    exact ⟨n, by rw [h1], h2.symm, by omega, by omega⟩
  | short => rw [ht] at h; cases h
  | form => rw [ht] at h; cases h
theorem told_lt {l bits : List Int} {s : Int} {n : Nat} (h : mayB l = true) (ho : Octets l) (hb : Bit bits) (ht : told l bits = .sym s n) : 0 ≤ s ∧ s < l.length := by
  have := told_right h ho bits hb
  rw [ht] at this
  obtain ⟨j, rfl, hm, _⟩ := this
  have := hm.1
  omega
theorem Octets.append {a b : List Int} (ha : Octets a) (hb : Octets b) : Octets (a ++ b) := fun x hx => (List.mem_append.1 hx).elim (ha x) (hb x)
theorem rep_octets {xs : List Int} (h : Octets xs) (n d : Nat) : Octets (rep xs n d) := by
  induction n with
  | zero => exact h
  | succ n ih =>
    rw [rep]
    exact Octets.append ih (fun x hx => by rw [List.mem_singleton.1 hx]; exact ih.at_ _)
theorem rep_begin (xs : List Int) (n d : Nat) : xs <+: rep xs n d := by
  induction n with
  | zero => exact List.prefix_refl _
  | succ n ih => rw [rep]; exact ih.trans (List.prefix_append _ _)

theorem Octets.replicate {v : Int} (hv : 0 ≤ v ∧ v ≤ 255) (n : Nat) : Octets (List.replicate n v) := fun x hx => by rw [(List.mem_replicate.1 hx).2]; exact hv
theorem run_ok {l acc b : List Int} {p q : Nat} {r : Int × Int} (hb : Bit b) (hm : mayB l = true) (ho : Octets l) (hl : l.length ≤ 19) (ha : Octets acc) (h : runG l acc b p = .ok r q) : 0 ≤ r.1 ∧ r.1 ≤ 255 ∧ 1 ≤ r.2 ∧ r.2 ≤ 138 := by
  unfold runG at h
  obtain ⟨s, q1, h1, h⟩ := bindG_inv h
  obtain ⟨n, ht, _⟩ := symG_inv h1
  have hs := told_lt hm ho (hb.drop p) ht
  by_cases c1 : s = 16
  · rw [if_pos c1] at h
    obtain ⟨_, q2, _, h⟩ := bindG_inv h
    obtain ⟨v, q3, h3, h⟩ := bindG_inv h
    have := numG_inv hb h3
    injection h with h4
    subst h4
    have := ha.at_ (acc.length - 1)
    simp only
    omega
  rw [if_neg c1] at h
  by_cases c2 : s = 17
  · rw [if_pos c2] at h
    obtain ⟨v, q3, h3, h⟩ := bindG_inv h
    have := numG_inv hb h3
    injection h with h4
    subst h4
    simp only
    omega
  rw [if_neg c2] at h
  by_cases c3 : s = 18
  · rw [if_pos c3] at h
    obtain ⟨v, q3, h3, h⟩ := bindG_inv h
    have := numG_inv hb h3
    injection h with h4
    subst h4
    simp only
    omega
  · rw [if_neg c3] at h
    injection h with h4
    subst h4
    simp only
    omega
theorem row_ok {l b : List Int} {many : Nat} (hb : Bit b) (hm : mayB l = true) (ho : Octets l) (hl : l.length ≤ 19) : ∀ (f : Nat) {acc ys : List Int} {p q : Nat}, Octets acc → acc.length ≤ many → many ≤ acc.length + f → rowG l many f acc b p = .ok ys q → Octets ys ∧ ys.length = many
  | 0, acc, ys, p, q, ha, h1, h2, h => by
    injection h with h3
    subst h3
    exact ⟨ha, by omega⟩
  | f + 1, acc, ys, p, q, ha, h1, h2, h => by
    unfold rowG at h
    by_cases c : many ≤ acc.length
    · rw [if_pos c] at h
      injection h with h3
      subst h3
      exact ⟨ha, by omega⟩
    · rw [if_neg c] at h
      obtain ⟨r, q1, h3, h⟩ := bindG_inv h
      have hr := run_ok hb hm ho hl ha h3
      obtain ⟨_, q2, h4, h⟩ := bindG_inv h
      have h5 := of_decide_eq_false (refG_inv h4).1
      refine row_ok hb hm ho hl f (Octets.append ha (Octets.replicate ⟨hr.1, hr.2.1⟩ _)) ?_ ?_ h
      · rw [List.length_append, List.length_replicate]; omega
      · rw [List.length_append, List.length_replicate]; omega
theorem hdr_ok {b : List Int} (hb : Bit b) : ∀ (n i : Nat) {acc t : List Int} {p q : Nat}, Octets acc → acc.length = 19 → hdrG n i acc b p = .ok t q → Octets t ∧ t.length = 19
  | 0, i, acc, t, p, q, ha, h1, h => by
    injection h with h3
    subst h3
    exact ⟨ha, h1⟩
  | n + 1, i, acc, t, p, q, ha, h1, h => by
    unfold hdrG at h
    obtain ⟨v, q1, h3, h⟩ := bindG_inv h
    have hv := numG_inv hb h3
    refine hdr_ok hb n (i + 1) (fun x hx => ?_) (by rw [List.length_set]; exact h1) h
    rcases List.mem_or_eq_of_mem_set hx with hx | rfl
    · exact ha x hx
    · omega
theorem dyn_ok {b : List Int} {p q : Nat} {r : List Int × List Int} (hb : Bit b) (h : dynG b p = .ok r q) : mayB r.1 = true ∧ Octets r.1 ∧ r.1.length ≤ 286 ∧ mayB r.2 = true ∧ Octets r.2 ∧ r.2.length ≤ 30 ∧ 1 ≤ r.2.length := by
  unfold dynG at h
  obtain ⟨a, q1, h1, h⟩ := bindG_inv h
  obtain ⟨d, q2, h2, h⟩ := bindG_inv h
  obtain ⟨c, q3, h3, h⟩ := bindG_inv h
  obtain ⟨_, q4, h4, h⟩ := bindG_inv h
  obtain ⟨t, q5, h5, h⟩ := bindG_inv h
  obtain ⟨_, q6, h6, h⟩ := bindG_inv h
  obtain ⟨l, q7, h7, h⟩ := bindG_inv h
  obtain ⟨_, q8, h8, h⟩ := bindG_inv h
  have k1 := numG_inv hb h1
  have k2 := numG_inv hb h2
  have k4 := (refG_inv h4).1
  have k6 := (refG_inv h6).1
  have k8 := (refG_inv h8).1
  rw [Bool.or_eq_false_iff, decide_eq_false_iff_not, decide_eq_false_iff_not] at k4
  rw [Bool.or_eq_false_iff, Bool.not_eq_false', Bool.not_eq_false'] at k8
  rw [Bool.not_eq_false'] at k6
  have kt := hdr_ok hb _ _ (Octets.replicate (by omega) 19) (List.length_replicate ..) h5
  have kl := row_ok hb k6 kt.1 (by omega) 320 (fun _ h => absurd h (by simp)) (by simp) (by simp; omega) h7
  injection h with h9
  subst h9
  refine ⟨k8.1, kl.1.head _, ?_, k8.2, kl.1.tail _, ?_, ?_⟩
  · rw [List.length_take]; omega
  · rw [List.length_drop, kl.2]; omega
  · rw [List.length_drop, kl.2]; omega
theorem fix_ok : mayB fixL = true ∧ Octets fixL ∧ fixL.length = 288 ∧ mayB fixD = true ∧ Octets fixD ∧ fixD.length = 32 := by
  refine ⟨by decide +kernel, ?_, by simp only [fixL, List.length_append, List.length_replicate], by decide +kernel, Octets.replicate (by omega) 32, by simp only [fixD, List.length_replicate]⟩
  exact Octets.append (Octets.append (Octets.append (Octets.replicate (by omega) _) (Octets.replicate (by omega) _)) (Octets.replicate (by omega) _)) (Octets.replicate (by omega) _)

/-- Where it stands, all is as it may be. -/
structure SOk (most : Int) (s : St) (p : Nat) : Prop where
  ph : s.ph = 0 ∨ s.ph = 1 ∨ s.ph = 2 ∨ s.ph = 3
  len : (s.out.length : Int) ≤ most
  oct : Octets s.out
  left : s.ph = 1 → ((s.out.length + s.left : Nat) : Int) ≤ most ∧ s.left ≤ 65535 ∧ p % 8 = 0
  codes : s.ph = 2 → mayB s.ls = true ∧ Octets s.ls ∧ mayB s.ds = true ∧ Octets s.ds
  lists : s.ls.length ≤ 288 ∧ s.ds.length ≤ 32
  none : s.ph ≠ 2 → s.ls = [] ∧ s.ds = []
theorem SOk.closed {most : Int} {s : St} {p : Nat} (q : Nat) (h : SOk most s p) : SOk most s.closed q := by
  have hp : s.closed.ph = 0 ∨ s.closed.ph = 3 := by
    show (if s.last then (3 : Int) else 0) = 0 ∨ (if s.last then (3 : Int) else 0) = 3
    split <;> omega
  exact ⟨by omega, h.len, h.oct, fun e => by omega, fun e => by omega, ⟨by show ([] : List Int).length ≤ 288; simp, by show ([] : List Int).length ≤ 32; simp⟩, fun _ => ⟨rfl, rfl⟩⟩
/-- How much there is to do at most. -/
def todo (n : Nat) (s : St) (p : Nat) : Nat := 2 * (n - p) + if s.ph = 1 then 1 else 0
/-- A step leaves all as it may be, tells more, or the same, and leaves less to do. -/
structure Stepped (most : Int) (b : List Int) (s s' : St) (p q : Nat) : Prop where
  ok : SOk most s' q
  out : s.out <+: s'.out
  le : p ≤ q ∧ q ≤ b.length
  less : todo b.length s' q < todo b.length s p
theorem open_ok {most : Int} {s s' : St} {b : List Int} {p q : Nat} (hb : Bit b) (h8 : b.length % 8 = 0) (hp : p ≤ b.length) (hs : SOk most s p) (h : openG most s b p = .ok s' q) : Stepped most b s s' p q := by
  have hle := (fine_open most s).le b p s' q h8 hp h
  have hless : p + 3 ≤ q → todo b.length s' q < todo b.length s p := by
    intro h3
    unfold todo
    split <;> split <;> omega
  unfold openG at h
  obtain ⟨a, q1, h1, h⟩ := bindG_inv h
  obtain ⟨k, q2, h2, h⟩ := bindG_inv h
  have k1 := numG_inv hb h1
  have k2 := numG_inv hb h2
  by_cases c0 : k = 0
  · rw [if_pos c0] at h
    obtain ⟨_, q3, h3, h⟩ := bindG_inv h
    obtain ⟨n, q4, h4, h⟩ := bindG_inv h
    obtain ⟨m, q5, h5, h⟩ := bindG_inv h
    obtain ⟨_, q6, h6, h⟩ := bindG_inv h
    obtain ⟨_, q7, h7, h⟩ := bindG_inv h
    injection h3 with h31 h32
    have k4 := numG_inv hb h4
    have k5 := numG_inv hb h5
    have k6 := refG_inv h6
    have k7 := refG_inv h7
    have k8 := of_decide_eq_false k7.1
    injection h with h91 h92
    subst h91
    refine ⟨⟨.inr (.inl rfl), hs.len, hs.oct, fun _ => ⟨?_, ?_, ?_⟩, fun e => absurd e (by simp), ⟨by simp, by simp⟩, fun _ => ⟨rfl, rfl⟩⟩, List.prefix_refl _, ⟨hle.1, hle.2.1⟩, hless (by omega)⟩
    · simp only; omega
    · simp only; omega
    · omega
  rw [if_neg c0] at h
  by_cases c1 : k = 1
  · rw [if_pos c1] at h
    injection h with h91 h92
    subst h91
    refine ⟨⟨.inr (.inr (.inl rfl)), hs.len, hs.oct, fun e => absurd e (by simp), fun _ => ⟨fix_ok.1, fix_ok.2.1, fix_ok.2.2.2.1, fix_ok.2.2.2.2.1⟩, ⟨by rw [fix_ok.2.2.1]; omega, by rw [fix_ok.2.2.2.2.2]; omega⟩, fun e => absurd rfl e⟩, List.prefix_refl _, ⟨hle.1, hle.2.1⟩, hless (by omega)⟩
  rw [if_neg c1] at h
  by_cases c2 : k = 2
  · rw [if_pos c2] at h
    obtain ⟨l, q3, h3, h⟩ := bindG_inv h
    have k3 := dyn_ok hb h3
    have k4 := fine_dyn.le b q2 l q3 h8 (by omega) h3
    injection h with h91 h92
    subst h91
    refine ⟨⟨.inr (.inr (.inl rfl)), hs.len, hs.oct, fun e => absurd e (by simp), fun _ => ⟨k3.1, k3.2.1, k3.2.2.2.1, k3.2.2.2.2.1⟩, ⟨by have := k3.2.2.1; simp only; omega, by have := k3.2.2.2.2.2.1; simp only; omega⟩, fun e => absurd rfl e⟩, List.prefix_refl _, ⟨hle.1, hle.2.1⟩, hless (by omega)⟩
  · rw [if_neg c2] at h
    obtain ⟨_, _, h3, h⟩ := bindG_inv h
    exact absurd (refG_inv h3).1 (by simp)
theorem byte_ok {most : Int} {s s' : St} {b : List Int} {p q : Nat} (hb : Bit b) (h8 : b.length % 8 = 0) (hp : p ≤ b.length) (hs : SOk most s p) (h1 : s.ph = 1) (h : byteG s b p = .ok s' q) : Stepped most b s s' p q := by
  have hle := (fine_byte s).le b p s' q h8 hp h
  have hl := hs.left h1
  unfold byteG at h
  by_cases c0 : s.left = 0
  · rw [if_pos c0] at h
    injection h with h91 h92
    subst h91 h92
    refine ⟨hs.closed _, List.prefix_refl _, ⟨hle.1, hle.2.1⟩, ?_⟩
    unfold todo
    rw [if_pos h1, if_neg]
    · omega
    · show ¬ (if s.last then (3 : Int) else 0) = 1
      split <;> omega
  · rw [if_neg c0] at h
    obtain ⟨v, q1, h2, h⟩ := bindG_inv h
    have k2 := numG_inv hb h2
    injection h with h91 h92
    have hlen : (s.out ++ [v]).length = s.out.length + 1 := by simp
    have hov : Octets (s.out ++ [v]) := Octets.append hs.oct (fun x hx => by rw [List.mem_singleton.1 hx]; omega)
    have hst : SOk most { s with left := s.left - 1, out := s.out ++ [v] } q := by
      refine ⟨hs.ph, by simp only; rw [hlen]; omega, hov, fun _ => ⟨?_, ?_, ?_⟩, fun e => by simp only at e; omega, hs.lists, fun _ => hs.none (by omega)⟩
      · simp only; rw [hlen]; omega
      · simp only; omega
      · omega
    by_cases c1 : s.left = 1
    · rw [if_pos c1] at h91
      subst h91
      have hst2 : SOk most { s with left := 0, out := s.out ++ [v] } q := by
        rw [c1] at hst
        exact hst
      refine ⟨hst2.closed _, ⟨[v], rfl⟩, ⟨hle.1, hle.2.1⟩, ?_⟩
      unfold todo
      rw [if_pos h1]
      split <;> omega
    · rw [if_neg c1] at h91
      subst h91
      refine ⟨hst, ⟨[v], rfl⟩, ⟨hle.1, hle.2.1⟩, ?_⟩
      show 2 * (b.length - q) + (if s.ph = 1 then 1 else 0) < 2 * (b.length - p) + (if s.ph = 1 then 1 else 0)
      rw [if_pos h1]
      omega
theorem match_ok {s : Int} {ds b : List Int} {n : Nat} {most : Int} {p q : Nat} {m : Int × Int} (hb : Bit b) (hm : mayB ds = true) (ho : Octets ds) (hs : 0 ≤ s) (h : matchG s ds n most b p = .ok m q) : s ≤ 28 ∧ 3 ≤ m.1 ∧ m.1 ≤ 300 ∧ 1 ≤ m.2 ∧ m.2 ≤ n ∧ n + m.1 ≤ most := by
  unfold matchG at h
  obtain ⟨_, q1, h1, h⟩ := bindG_inv h
  obtain ⟨k, q2, h2, h⟩ := bindG_inv h
  obtain ⟨d, q3, h3, h⟩ := bindG_inv h
  obtain ⟨_, q4, h4, h⟩ := bindG_inv h
  obtain ⟨j, q5, h5, h⟩ := bindG_inv h
  obtain ⟨_, q6, h6, h⟩ := bindG_inv h
  obtain ⟨_, q7, h7, h⟩ := bindG_inv h
  have k1 := of_decide_eq_false (refG_inv h1).1
  have k2 := numG_inv hb h2
  obtain ⟨t, ht, _⟩ := symG_inv h3
  have k3 := told_lt hm ho (hb.drop _) ht
  have k4 := of_decide_eq_false (refG_inv h4).1
  have k5 := numG_inv hb h5
  have k6 := of_decide_eq_false (refG_inv h6).1
  have k7 := of_decide_eq_false (refG_inv h7).1
  have l1 := lens_bd s.toNat (by omega)
  have l2 := dists_bd d.toNat (by omega)
  have l3 : (2 : Int) ^ (lmore s).toNat ≤ 2 ^ 5 := p2_le (lmore_le s (by omega))
  injection h with h9
  subst h9
  simp only
  omega
theorem code_ok {most : Int} {s s' : St} {b : List Int} {p q : Nat} (hb : Bit b) (h8 : b.length % 8 = 0) (hp : p ≤ b.length) (hs : SOk most s p) (h1 : s.ph = 2) (h : codeG most s b p = .ok s' q) : Stepped most b s s' p q := by
  have hle := (fine_code most s).le b p s' q h8 hp h
  obtain ⟨hm1, ho1, hm2, ho2⟩ := hs.codes h1
  unfold codeG at h
  obtain ⟨x, q1, h2, h⟩ := bindG_inv h
  obtain ⟨n, ht, hq1, hn1, _⟩ := symG_inv h2
  have hx := told_lt hm1 ho1 (hb.drop p) ht
  have hless : ∀ t : St, t.ph ≠ 1 → p + 1 ≤ q → todo b.length t q < todo b.length s p := by
    intro t h3 h4
    unfold todo
    rw [if_neg h3, if_neg (by omega)]
    omega
  by_cases c0 : x < 256
  · rw [if_pos c0] at h
    obtain ⟨_, q2, h3, h⟩ := bindG_inv h
    have k3 := refG_inv h3
    have k4 := of_decide_eq_false k3.1
    injection h with h91 h92
    subst h91
    refine ⟨⟨hs.ph, by simp only; rw [List.length_append, List.length_singleton]; omega, Octets.append hs.oct (fun y hy => by rw [List.mem_singleton.1 hy]; omega), fun e => by simp only at e; omega, fun _ => ⟨hm1, ho1, hm2, ho2⟩, hs.lists, fun e => absurd h1 e⟩, ⟨[x], rfl⟩, ⟨hle.1, hle.2.1⟩, hless _ (by simp only; omega) (by omega)⟩
  rw [if_neg c0] at h
  by_cases c1 : x = 256
  · rw [if_pos c1] at h
    injection h with h91 h92
    subst h91
    refine ⟨hs.closed _, List.prefix_refl _, ⟨hle.1, hle.2.1⟩, hless _ ?_ (by omega)⟩
    show ¬ (if s.last then (3 : Int) else 0) = 1
    split <;> omega
  · rw [if_neg c1] at h
    obtain ⟨m, q2, h3, h⟩ := bindG_inv h
    have k3 := match_ok hb hm2 ho2 (by omega) h3
    have k4 := (fine_match (x - 257) s.ds s.out.length most).le b q1 m q2 h8 (by have := (fine_sym s.ls).le b p x q1 h8 hp h2; omega) h3
    injection h with h91 h92
    subst h91
    refine ⟨⟨hs.ph, by simp only; rw [rep_length]; omega, rep_octets hs.oct _ _, fun e => by simp only at e; omega, fun _ => ⟨hm1, ho1, hm2, ho2⟩, hs.lists, fun e => absurd h1 e⟩, rep_begin _ _ _, ⟨hle.1, hle.2.1⟩, hless _ (by simp only; omega) (by omega)⟩
theorem step_ok {most : Int} {s s' : St} {b : List Int} {p q : Nat} (hb : Bit b) (h8 : b.length % 8 = 0) (hp : p ≤ b.length) (hs : SOk most s p) (h3 : s.ph ≠ 3) (h : stepG most s b p = .ok s' q) : Stepped most b s s' p q := by
  unfold stepG at h
  rcases hs.ph with e | e | e | e
  · rw [if_pos e] at h; exact open_ok hb h8 hp hs h
  · rw [if_neg (by omega), if_pos e] at h; exact byte_ok hb h8 hp hs e h
  · rw [if_neg (by omega), if_neg (by omega)] at h; exact code_ok hb h8 hp hs e h
  · exact absurd e h3
end Go.Proofs.YthmkeflkhocobaaDoor.Inf
