/-
  Layer 30, a line's words, as the program splits it: a contract. Conditions: as each theorem names.
-/
import Derived.Test.YtngeemfcmoahoaaTvA
import Derived.Test.YtngeemfcmoahoaaTvS
namespace Go.Proofs.Ytngeemfcmoahoaa.Tv
open Go.ChangeShapes Go.WideShapes Go.ChangeAt Go.RowKit Go.Proofs.Ytngeemfcmoahoaa.Kit Go.Proofs.Ytngeemfcmoahoaa.Tx Go.Proofs.Ytngeemfcmoahoaa.Ty

def SplitTo (s : ByteArray) (w : World) (e : Ending) (w' : World) : Prop :=
  e = .returned (.pointer (some ⟨w.heap.size, 0, none⟩)) ∧ WordsAt w' w.heap.size (wordsL (numsOf s)) 0 ∧ Below w.heap.size w w'
theorem getD_app {ws : List (List Int)} (c : List Int) (i : Nat) : (ws ++ [c]).getD i [] = if i < ws.length then ws.getD i [] else if i = ws.length then c else [] := by
  rw [List.getD_eq_getElem?_getD, List.getD_eq_getElem?_getD, List.getElem?_append]
  by_cases h : i < ws.length
  · rw [if_pos h, if_pos h]
  · rw [if_neg h, if_neg h]
    by_cases h2 : i = ws.length
    · rw [if_pos h2, h2, Nat.sub_self]; rfl
    · rw [if_neg h2, List.getElem?_eq_none (by simp; omega)]; rfl
theorem WordsAt.push {w : World} {g : Nat} {ws : List (List Int)} (h : WordsAt w g ws 0) (c : List Int) {n : Nat} (hn : ws.length = n) (h7 : n < 7) :
    WordsAt ((w.setCell ⟨g, n, none⟩ (.string (strOfNums c))).setCell ⟨g, 7, none⟩ (.int .i64 ((n + 1 : Nat) : Int))) g (ws ++ [c]) 0 := by
  have h1 := (h.set_ n (.string (strOfNums c))).set_ 7 (.int .i64 ((n + 1 : Nat) : Int))
  unfold WordsAt
  have e : wordsC (ws ++ [c]) 0 = ((wordsC ws 0).setIfInBounds n (.string (strOfNums c))).setIfInBounds 7 (.int .i64 ((n + 1 : Nat) : Int)) := by
    unfold wordsC
    simp only [getD_app, hn, List.length_append, List.length_singleton]
    have hg : ∀ i, n ≤ i → ws.getD i [] = [] := fun i hi => by rw [List.getD_eq_getElem?_getD, List.getElem?_eq_none (by omega)]; rfl
    obtain rfl | rfl | rfl | rfl | rfl | rfl | rfl : n = 0 ∨ n = 1 ∨ n = 2 ∨ n = 3 ∨ n = 4 ∨ n = 5 ∨ n = 6 := by omega
    all_goals (simp (discharger := omega) [hg])
  rw [e]
  exact h1
theorem WordsAt.more {w : World} {g : Nat} {ws : List (List Int)} (h : WordsAt w g ws 0) (c : List Int) {n : Nat} (hn : ws.length = n) (h7 : 7 ≤ n) :
    WordsAt (w.setCell ⟨g, 7, none⟩ (.int .i64 ((n + 1 : Nat) : Int))) g (ws ++ [c]) 0 := by
  have h1 := h.set_ 7 (.int .i64 ((n + 1 : Nat) : Int))
  unfold WordsAt
  have e : wordsC (ws ++ [c]) 0 = (wordsC ws 0).setIfInBounds 7 (.int .i64 ((n + 1 : Nat) : Int)) := by
    unfold wordsC
    simp only [getD_app, hn, List.length_append, List.length_singleton]
    simp (discharger := omega) [show (0:Nat) < n by omega, show (1:Nat) < n by omega, show (2:Nat) < n by omega, show (3:Nat) < n by omega, show (4:Nat) < n by omega, show (5:Nat) < n by omega, show (6:Nat) < n by omega]
  rw [e]
  exact h1
/-- What is left to do. -/
def leftW : Value → Value → Nat
  | .string r, .bool true => r.size + 1
  | _, _ => 0
theorem zeroW : wordsC [] 0 = #[.string ⟨#[]⟩, .string ⟨#[]⟩, .string ⟨#[]⟩, .string ⟨#[]⟩, .string ⟨#[]⟩, .string ⟨#[]⟩, .string ⟨#[]⟩, .int .i64 0, .int .i64 0] := rfl
/-- What a cut at a byte tells. -/
theorem cut_at {r : ByteArray} {c : UInt8} {o : Nat} (h : Lib.indexByte r.data.toList c = o) : o < r.size ∧ numsOf r = numsOf (r.extract 0 o) ++ (c.toNat : Int) :: numsOf (r.extract (o + 1) r.size) ∧ ∀ x ∈ numsOf (r.extract 0 o), x ≠ (c.toNat : Int) := by
  obtain ⟨h1, h2⟩ := Lib.indexByte_some h
  have ho : o < r.size := by
    have := (List.getElem?_eq_some_iff.1 h1).1
    simpa using this
  have hl : o < (numsOf r).length := by rw [numsOf_length]; exact ho
  refine ⟨ho, ?_, ?_⟩
  · rw [nums_cut, nums_cut, List.drop_zero, Nat.sub_zero, List.take_of_length_le (l := (numsOf r).drop (o + 1)) (by rw [List.length_drop, numsOf_length]; omega)]
    have h3 := (List.take_append_drop o (numsOf r)).symm
    rw [List.drop_eq_getElem_cons hl] at h3
    have h4 : (numsOf r)[o] = (c.toNat : Int) := by
      have h5 : (numsOf r)[o]? = some (c.toNat : Int) := by
        unfold numsOf
        rw [List.getElem?_map, h1]; rfl
      rw [List.getElem?_eq_getElem hl] at h5
      exact Option.some.inj h5
    rw [h4] at h3
    exact h3
  · intro x hx
    rw [nums_cut, List.drop_zero, Nat.sub_zero] at hx
    obtain ⟨j, hj, rfl⟩ := List.getElem_of_mem hx
    rw [List.getElem_take]
    rw [List.length_take] at hj
    intro he
    have hjr : j < r.data.toList.length := by have := numsOf_length r; rw [this] at hj; simp; omega
    apply h2 j (by omega)
    unfold numsOf at he
    rw [List.getElem_map] at he
    rw [List.getElem?_eq_getElem hjr]
    congr 1
    apply UInt8.toNat.inj
    exact Int.ofNat.inj he
theorem cut_none {r : ByteArray} {c : UInt8} (h : Lib.indexByte r.data.toList c = -1) : ∀ x ∈ numsOf r, x ≠ (c.toNat : Int) := by
  intro x hx he
  have h2 := Lib.indexByte_none h
  unfold numsOf at hx
  rw [List.mem_map] at hx
  obtain ⟨b, hb, rfl⟩ := hx
  obtain ⟨k, hk, rfl⟩ := List.getElem_of_mem hb
  apply h2 k
  rw [List.getElem?_eq_getElem hk]
  congr 1
  apply UInt8.toNat.inj
  exact Int.ofNat.inj he
theorem cut_words {r : ByteArray} {o : Nat} (h : Lib.indexByte r.data.toList 32 = o) : wordsL (numsOf r) = numsOf (r.extract 0 o) :: wordsL (numsOf (r.extract (o + 1) r.size)) := by
  obtain ⟨_, h2, h3⟩ := cut_at h
  conv => lhs; rw [h2]
  exact wordsL_cut _ _ h3
theorem cut_last {r : ByteArray} (h : Lib.indexByte r.data.toList 32 = -1) : wordsL (numsOf r) = [numsOf r] := wordsL_end _ (cut_none h)
set_option maxRecDepth 100000 in
set_option maxHeartbeats 12800000 in
/-- A line's words. -/
theorem split_any (s : ByteArray) (w : World) (hs : s.size ≤ 1000000) : Calls Try.prog 30 #[.string s] w (SplitTo s w) := by
  have hblk : WordsAt (w.alloc (.cells #[.string ⟨#[]⟩, .string ⟨#[]⟩, .string ⟨#[]⟩, .string ⟨#[]⟩, .string ⟨#[]⟩, .string ⟨#[]⟩, .string ⟨#[]⟩, .int .i64 0, .int .i64 0] 84)) w.heap.size [] 0 := Block.new w _ _
  have hb0 : Below w.heap.size w (w.alloc (.cells #[.string ⟨#[]⟩, .string ⟨#[]⟩, .string ⟨#[]⟩, .string ⟨#[]⟩, .string ⟨#[]⟩, .string ⟨#[]⟩, .string ⟨#[]⟩, .int .i64 0, .int .i64 0] 84)) := (Below.refl _ _).alloc (Nat.le_refl _) _
  have HK := Lib.hid hblk
  have HB := Lib.hid hb0
  clear hblk hb0
  go_enter Try.func30, Try.ntmps30
  go_wp2_with fail
  go_loopw [4, 5] (fun a b wr => ∃ (ws : List (List Int)) (r : ByteArray) (m : Bool), a = .string r ∧ b = .bool m ∧ ws.length + r.size ≤ s.size + 1 ∧ (m = true → ws.length + r.size ≤ s.size) ∧ WordsAt wr w.heap.size ws 0 ∧ Below w.heap.size w wr ∧
    Hid (wordsL (numsOf s) = if m = true then ws ++ wordsL (numsOf r) else ws)) (fun a b _ => leftW a b)
  case atStart => exact ⟨[], s, true, rfl, rfl, by simp, by simp, HK.out, HB.out, Lib.hid (by simp)⟩
  case round =>
    obtain ⟨ws, r, m, rfl, rfl, hl, hl2, hws, hB, HW⟩ := hrel
    clear HK HB
    cases m with
    | false =>
      have HE := Lib.hid (show wordsL (numsOf s) = ws by rw [HW.out]; rfl)
      go_wp2_with fail
      go_ret
      exact ⟨rfl, by rw [HE.out]; exact hws, hB⟩
    | true =>
      have hl3 := hl2 rfl
      have HWW := Lib.hid (show wordsL (numsOf s) = ws ++ wordsL (numsOf r) by rw [HW.out]; rfl)
      clear HW hl2
      have HB := Lib.hid hB
      clear hB
      -- what is behind a cut: the next word c, the rest q, whether there is more
      have key : ∀ (c q : ByteArray) (m : Bool) (e : Ending) (w2 : World), True → True := fun _ _ _ _ _ _ => trivial
      clear key
      have hix : (∃ o : Nat, Lib.indexByte r.data.toList 32 = o) ∨ Lib.indexByte r.data.toList 32 = -1 := by
        have := Lib.indexByte_ge r.data.toList 32
        rcases Int.lt_or_le (Lib.indexByte r.data.toList 32) 0 with h | h
        · exact .inr (by omega)
        · exact .inl ⟨(Lib.indexByte r.data.toList 32).toNat, by omega⟩
      have hcut : ∃ (c q : ByteArray) (m : Bool), ws.length + 1 + q.size ≤ s.size + 1 ∧ (m = true → ws.length + 1 + q.size ≤ s.size) ∧ leftW (.string q) (.bool m) < r.size + 1 ∧ Hid (wordsL (numsOf s) = if m = true then (ws ++ [numsOf c]) ++ wordsL (numsOf q) else ws ++ [numsOf c]) ∧
          Hid (∀ W, Calls Try.prog 28 #[.string r, .string ⟨#[32]⟩] W fun e w' => e = .returned (.tuple #[.string c, .string q, .bool m]) ∧ ∃ n, w' = W.drewN n) := by
        rcases hix with ⟨o, h⟩ | h
        · obtain ⟨ho, _, _⟩ := cut_at h
          have hq : (r.extract (o + 1) r.size).size = r.size - (o + 1) := by rw [ByteArray.size_extract]; omega
          refine ⟨r.extract 0 o, r.extract (o + 1) r.size, true, by omega, fun _ => by omega, by unfold leftW; simp only []; omega, Lib.hid ?_, Lib.hid fun W => cut_yes r 32 W o (by omega) h⟩
          rw [HWW.out, cut_words h]
          simp
        · refine ⟨r, ⟨#[]⟩, false, (show _ + 1 + 0 ≤ _ by omega), (fun h => by cases h), (by unfold leftW; simp), Lib.hid ?_, Lib.hid fun W => (cut_no r 32 W h).mono fun e w' h => ⟨h.1, 0, h.2⟩⟩
          rw [HWW.out, cut_last h]
          simp
      obtain ⟨c, q, m, hq1, hq2, hq3, HWN, GC⟩ := hcut
      clear hix hl hl3 HWW
      have HQ := Lib.hid (show (ws.length + 1 + q.size ≤ s.size + 1) ∧ (m = true → ws.length + 1 + q.size ≤ s.size) ∧ leftW (.string q) (.bool m) < r.size + 1 from ⟨hq1, hq2, hq3⟩)
      have hnb : ws.length ≤ 1000001 := by omega
      clear hq1 hq2 hq3
      have HWS := Lib.hid hws
      have c7 := fun n => ((hws.drewN n).cell 7).trans (show _ = some (.int .i64 ws.length) from rfl)
      have z7 := fun n => (hws.drewN n).frozen 7
      obtain ⟨n, hn⟩ : ∃ n, ws.length = n := ⟨_, rfl⟩
      have HN := Lib.hid hn
      rw [hn] at c7 hnb
      have scs : strOfNums (numsOf c) = c := str_nums c
      have HSC := Lib.hid scs
      clear scs hn
      have q1 : IntKind.i64.wrap ((n : Int) + 1) = ((n + 1 : Nat) : Int) := by rw [IntKind.wrap_i64]; omega
      clear hws
      by_cases h7 : n < 7
      · have d1 : decide ((n : Int) < 7) = true := decide_eq_true (by omega)
        have d2 : decide (n < 7) = true := decide_eq_true h7
        have WP := fun k : Nat => WordsAt.push (Block.drewN HWS.out k) (numsOf c) HN.out h7
        rw [HSC.out] at WP
        obtain rfl | rfl | rfl | rfl | rfl | rfl | rfl : n = 0 ∨ n = 1 ∨ n = 2 ∨ n = 3 ∨ n = 4 ∨ n = 5 ∨ n = 6 := by omega
        · have WQ := Lib.hid WP
          have c7 : ∀ k, (wr.drewN k).cell? ⟨w.heap.size, 7, none⟩ = some (.int .i64 0) := c7
          have e7 : ∀ k, ((wr.drewN k).setCell ⟨w.heap.size, 0, none⟩ (.string c)).cell? ⟨w.heap.size, 7, none⟩ = some (.int .i64 0) := fun k => (World.cell?_setCell_other _ _ _ _ (by intro he; injection he with _ he2; omega)).trans (c7 k)
          have y7 : ∀ k, ((wr.drewN k).setCell ⟨w.heap.size, 0, none⟩ (.string c)).frozen? ⟨w.heap.size, 7, none⟩ = false := fun k => by rw [World.frozen?_setCell]; exact z7 k
          have zi : ∀ k, (wr.drewN k).frozen? ⟨w.heap.size, 0, none⟩ = false := fun k => (HWS.out.drewN k).frozen 0
          have ci : ∃ u, wr.cell? ⟨w.heap.size, 0, none⟩ = some (.string u) := ⟨_, WordsAt.word HWS.out (by omega)⟩
          have zw : wr.frozen? ⟨w.heap.size, 0, none⟩ = false := HWS.out.frozen 0
          have cw : wr.cell? ⟨w.heap.size, 7, none⟩ = some (.int .i64 0) := c7 0
          clear WP h7 d1 d2 q1 hnb
          go_wp2_with (go_at_call 28; refine (GC.out _).mono ?_; rintro e w2 ⟨rfl, k, rfl⟩)
          obtain ⟨u, cu⟩ := ci
          go_region
          all_goals
            go_wp2_with fail
            go_roundw
            case rel => exact ⟨ws ++ [numsOf c], q, m, rfl, rfl, by rw [List.length_append]; simp; exact HQ.out.1, fun h => by rw [List.length_append]; simp; exact HQ.out.2.1 h, WQ.out _, ((below_draws HB.out _).setCell (p := ⟨w.heap.size, 0, none⟩) (Nat.le_refl _) _).setCell (p := ⟨w.heap.size, 7, none⟩) (Nat.le_refl _) _, HWN⟩
            case measure => exact HQ.out.2.2
        · have WQ := Lib.hid WP
          have c7 : ∀ k, (wr.drewN k).cell? ⟨w.heap.size, 7, none⟩ = some (.int .i64 1) := c7
          have e7 : ∀ k, ((wr.drewN k).setCell ⟨w.heap.size, 1, none⟩ (.string c)).cell? ⟨w.heap.size, 7, none⟩ = some (.int .i64 1) := fun k => (World.cell?_setCell_other _ _ _ _ (by intro he; injection he with _ he2; omega)).trans (c7 k)
          have y7 : ∀ k, ((wr.drewN k).setCell ⟨w.heap.size, 1, none⟩ (.string c)).frozen? ⟨w.heap.size, 7, none⟩ = false := fun k => by rw [World.frozen?_setCell]; exact z7 k
          have zi : ∀ k, (wr.drewN k).frozen? ⟨w.heap.size, 1, none⟩ = false := fun k => (HWS.out.drewN k).frozen 1
          have ci : ∃ u, wr.cell? ⟨w.heap.size, 1, none⟩ = some (.string u) := ⟨_, WordsAt.word HWS.out (by omega)⟩
          have zw : wr.frozen? ⟨w.heap.size, 1, none⟩ = false := HWS.out.frozen 1
          have cw : wr.cell? ⟨w.heap.size, 7, none⟩ = some (.int .i64 1) := c7 0
          clear WP h7 d1 d2 q1 hnb
          go_wp2_with (go_at_call 28; refine (GC.out _).mono ?_; rintro e w2 ⟨rfl, k, rfl⟩)
          obtain ⟨u, cu⟩ := ci
          go_region
          all_goals
            go_wp2_with fail
            go_roundw
            case rel => exact ⟨ws ++ [numsOf c], q, m, rfl, rfl, by rw [List.length_append]; simp; exact HQ.out.1, fun h => by rw [List.length_append]; simp; exact HQ.out.2.1 h, WQ.out _, ((below_draws HB.out _).setCell (p := ⟨w.heap.size, 1, none⟩) (Nat.le_refl _) _).setCell (p := ⟨w.heap.size, 7, none⟩) (Nat.le_refl _) _, HWN⟩
            case measure => exact HQ.out.2.2
        · have WQ := Lib.hid WP
          have c7 : ∀ k, (wr.drewN k).cell? ⟨w.heap.size, 7, none⟩ = some (.int .i64 2) := c7
          have e7 : ∀ k, ((wr.drewN k).setCell ⟨w.heap.size, 2, none⟩ (.string c)).cell? ⟨w.heap.size, 7, none⟩ = some (.int .i64 2) := fun k => (World.cell?_setCell_other _ _ _ _ (by intro he; injection he with _ he2; omega)).trans (c7 k)
          have y7 : ∀ k, ((wr.drewN k).setCell ⟨w.heap.size, 2, none⟩ (.string c)).frozen? ⟨w.heap.size, 7, none⟩ = false := fun k => by rw [World.frozen?_setCell]; exact z7 k
          have zi : ∀ k, (wr.drewN k).frozen? ⟨w.heap.size, 2, none⟩ = false := fun k => (HWS.out.drewN k).frozen 2
          have ci : ∃ u, wr.cell? ⟨w.heap.size, 2, none⟩ = some (.string u) := ⟨_, WordsAt.word HWS.out (by omega)⟩
          have zw : wr.frozen? ⟨w.heap.size, 2, none⟩ = false := HWS.out.frozen 2
          have cw : wr.cell? ⟨w.heap.size, 7, none⟩ = some (.int .i64 2) := c7 0
          clear WP h7 d1 d2 q1 hnb
          go_wp2_with (go_at_call 28; refine (GC.out _).mono ?_; rintro e w2 ⟨rfl, k, rfl⟩)
          obtain ⟨u, cu⟩ := ci
          go_region
          all_goals
            go_wp2_with fail
            go_roundw
            case rel => exact ⟨ws ++ [numsOf c], q, m, rfl, rfl, by rw [List.length_append]; simp; exact HQ.out.1, fun h => by rw [List.length_append]; simp; exact HQ.out.2.1 h, WQ.out _, ((below_draws HB.out _).setCell (p := ⟨w.heap.size, 2, none⟩) (Nat.le_refl _) _).setCell (p := ⟨w.heap.size, 7, none⟩) (Nat.le_refl _) _, HWN⟩
            case measure => exact HQ.out.2.2
        · have WQ := Lib.hid WP
          have c7 : ∀ k, (wr.drewN k).cell? ⟨w.heap.size, 7, none⟩ = some (.int .i64 3) := c7
          have e7 : ∀ k, ((wr.drewN k).setCell ⟨w.heap.size, 3, none⟩ (.string c)).cell? ⟨w.heap.size, 7, none⟩ = some (.int .i64 3) := fun k => (World.cell?_setCell_other _ _ _ _ (by intro he; injection he with _ he2; omega)).trans (c7 k)
          have y7 : ∀ k, ((wr.drewN k).setCell ⟨w.heap.size, 3, none⟩ (.string c)).frozen? ⟨w.heap.size, 7, none⟩ = false := fun k => by rw [World.frozen?_setCell]; exact z7 k
          have zi : ∀ k, (wr.drewN k).frozen? ⟨w.heap.size, 3, none⟩ = false := fun k => (HWS.out.drewN k).frozen 3
          have ci : ∃ u, wr.cell? ⟨w.heap.size, 3, none⟩ = some (.string u) := ⟨_, WordsAt.word HWS.out (by omega)⟩
          have zw : wr.frozen? ⟨w.heap.size, 3, none⟩ = false := HWS.out.frozen 3
          have cw : wr.cell? ⟨w.heap.size, 7, none⟩ = some (.int .i64 3) := c7 0
          clear WP h7 d1 d2 q1 hnb
          go_wp2_with (go_at_call 28; refine (GC.out _).mono ?_; rintro e w2 ⟨rfl, k, rfl⟩)
          obtain ⟨u, cu⟩ := ci
          go_region
          all_goals
            go_wp2_with fail
            go_roundw
            case rel => exact ⟨ws ++ [numsOf c], q, m, rfl, rfl, by rw [List.length_append]; simp; exact HQ.out.1, fun h => by rw [List.length_append]; simp; exact HQ.out.2.1 h, WQ.out _, ((below_draws HB.out _).setCell (p := ⟨w.heap.size, 3, none⟩) (Nat.le_refl _) _).setCell (p := ⟨w.heap.size, 7, none⟩) (Nat.le_refl _) _, HWN⟩
            case measure => exact HQ.out.2.2
        · have WQ := Lib.hid WP
          have c7 : ∀ k, (wr.drewN k).cell? ⟨w.heap.size, 7, none⟩ = some (.int .i64 4) := c7
          have e7 : ∀ k, ((wr.drewN k).setCell ⟨w.heap.size, 4, none⟩ (.string c)).cell? ⟨w.heap.size, 7, none⟩ = some (.int .i64 4) := fun k => (World.cell?_setCell_other _ _ _ _ (by intro he; injection he with _ he2; omega)).trans (c7 k)
          have y7 : ∀ k, ((wr.drewN k).setCell ⟨w.heap.size, 4, none⟩ (.string c)).frozen? ⟨w.heap.size, 7, none⟩ = false := fun k => by rw [World.frozen?_setCell]; exact z7 k
          have zi : ∀ k, (wr.drewN k).frozen? ⟨w.heap.size, 4, none⟩ = false := fun k => (HWS.out.drewN k).frozen 4
          have ci : ∃ u, wr.cell? ⟨w.heap.size, 4, none⟩ = some (.string u) := ⟨_, WordsAt.word HWS.out (by omega)⟩
          have zw : wr.frozen? ⟨w.heap.size, 4, none⟩ = false := HWS.out.frozen 4
          have cw : wr.cell? ⟨w.heap.size, 7, none⟩ = some (.int .i64 4) := c7 0
          clear WP h7 d1 d2 q1 hnb
          go_wp2_with (go_at_call 28; refine (GC.out _).mono ?_; rintro e w2 ⟨rfl, k, rfl⟩)
          obtain ⟨u, cu⟩ := ci
          go_region
          all_goals
            go_wp2_with fail
            go_roundw
            case rel => exact ⟨ws ++ [numsOf c], q, m, rfl, rfl, by rw [List.length_append]; simp; exact HQ.out.1, fun h => by rw [List.length_append]; simp; exact HQ.out.2.1 h, WQ.out _, ((below_draws HB.out _).setCell (p := ⟨w.heap.size, 4, none⟩) (Nat.le_refl _) _).setCell (p := ⟨w.heap.size, 7, none⟩) (Nat.le_refl _) _, HWN⟩
            case measure => exact HQ.out.2.2
        · have WQ := Lib.hid WP
          have c7 : ∀ k, (wr.drewN k).cell? ⟨w.heap.size, 7, none⟩ = some (.int .i64 5) := c7
          have e7 : ∀ k, ((wr.drewN k).setCell ⟨w.heap.size, 5, none⟩ (.string c)).cell? ⟨w.heap.size, 7, none⟩ = some (.int .i64 5) := fun k => (World.cell?_setCell_other _ _ _ _ (by intro he; injection he with _ he2; omega)).trans (c7 k)
          have y7 : ∀ k, ((wr.drewN k).setCell ⟨w.heap.size, 5, none⟩ (.string c)).frozen? ⟨w.heap.size, 7, none⟩ = false := fun k => by rw [World.frozen?_setCell]; exact z7 k
          have zi : ∀ k, (wr.drewN k).frozen? ⟨w.heap.size, 5, none⟩ = false := fun k => (HWS.out.drewN k).frozen 5
          have ci : ∃ u, wr.cell? ⟨w.heap.size, 5, none⟩ = some (.string u) := ⟨_, WordsAt.word HWS.out (by omega)⟩
          have zw : wr.frozen? ⟨w.heap.size, 5, none⟩ = false := HWS.out.frozen 5
          have cw : wr.cell? ⟨w.heap.size, 7, none⟩ = some (.int .i64 5) := c7 0
          clear WP h7 d1 d2 q1 hnb
          go_wp2_with (go_at_call 28; refine (GC.out _).mono ?_; rintro e w2 ⟨rfl, k, rfl⟩)
          obtain ⟨u, cu⟩ := ci
          go_region
          all_goals
            go_wp2_with fail
            go_roundw
            case rel => exact ⟨ws ++ [numsOf c], q, m, rfl, rfl, by rw [List.length_append]; simp; exact HQ.out.1, fun h => by rw [List.length_append]; simp; exact HQ.out.2.1 h, WQ.out _, ((below_draws HB.out _).setCell (p := ⟨w.heap.size, 5, none⟩) (Nat.le_refl _) _).setCell (p := ⟨w.heap.size, 7, none⟩) (Nat.le_refl _) _, HWN⟩
            case measure => exact HQ.out.2.2
        · have WQ := Lib.hid WP
          have c7 : ∀ k, (wr.drewN k).cell? ⟨w.heap.size, 7, none⟩ = some (.int .i64 6) := c7
          have e7 : ∀ k, ((wr.drewN k).setCell ⟨w.heap.size, 6, none⟩ (.string c)).cell? ⟨w.heap.size, 7, none⟩ = some (.int .i64 6) := fun k => (World.cell?_setCell_other _ _ _ _ (by intro he; injection he with _ he2; omega)).trans (c7 k)
          have y7 : ∀ k, ((wr.drewN k).setCell ⟨w.heap.size, 6, none⟩ (.string c)).frozen? ⟨w.heap.size, 7, none⟩ = false := fun k => by rw [World.frozen?_setCell]; exact z7 k
          have zi : ∀ k, (wr.drewN k).frozen? ⟨w.heap.size, 6, none⟩ = false := fun k => (HWS.out.drewN k).frozen 6
          have ci : ∃ u, wr.cell? ⟨w.heap.size, 6, none⟩ = some (.string u) := ⟨_, WordsAt.word HWS.out (by omega)⟩
          have zw : wr.frozen? ⟨w.heap.size, 6, none⟩ = false := HWS.out.frozen 6
          have cw : wr.cell? ⟨w.heap.size, 7, none⟩ = some (.int .i64 6) := c7 0
          clear WP h7 d1 d2 q1 hnb
          go_wp2_with (go_at_call 28; refine (GC.out _).mono ?_; rintro e w2 ⟨rfl, k, rfl⟩)
          obtain ⟨u, cu⟩ := ci
          go_region
          all_goals
            go_wp2_with fail
            go_roundw
            case rel => exact ⟨ws ++ [numsOf c], q, m, rfl, rfl, by rw [List.length_append]; simp; exact HQ.out.1, fun h => by rw [List.length_append]; simp; exact HQ.out.2.1 h, WQ.out _, ((below_draws HB.out _).setCell (p := ⟨w.heap.size, 6, none⟩) (Nat.le_refl _) _).setCell (p := ⟨w.heap.size, 7, none⟩) (Nat.le_refl _) _, HWN⟩
            case measure => exact HQ.out.2.2
      · have d1 : decide ((n : Int) < 7) = false := decide_eq_false (by omega)
        have d2 : decide (n < 7) = false := decide_eq_false h7
        have WP := Lib.hid (fun k : Nat => WordsAt.more (Block.drewN HWS.out k) (numsOf c) HN.out (by omega))
        clear h7
        go_wp2_with (go_at_call 28; refine (GC.out _).mono ?_; rintro e w2 ⟨rfl, k, rfl⟩)
        go_roundw
        case rel => exact ⟨ws ++ [numsOf c], q, m, rfl, rfl, by rw [List.length_append]; simp; exact HQ.out.1, fun h => by rw [List.length_append]; simp; exact HQ.out.2.1 h, WP.out _, (below_draws HB.out _).setCell (p := ⟨w.heap.size, 7, none⟩) (Nat.le_refl _) _, HWN⟩
        case measure => exact HQ.out.2.2
end Go.Proofs.Ytngeemfcmoahoaa.Tv
