/-
  Layer 16, plan: the document's reading of a step: contract. Conditions: as each theorem names.
-/
import Derived.Test.YtjcofmeknpgjnaaPlGt
namespace Go.Proofs.Ytjcofmeknpgjnaa.Pl
open Go.ChangeShapes Go.WideShapes Go.ChangeAt Go.RowKit Go.Proofs.Ytjcofmeknpgjnaa.Kit

def DTold (B n : Nat) (w : World) (res : Except Int (Sq × List Int)) (e : Ending) (w' : World) : Prop :=
  Below w.heap.size w w' ∧ match res with
  | .ok (q, l) => ∃ A c, e = .returned (.tuple #[.agg #[.int .u8 q.a, .int .i64 q.b, .int .i64 q.x, .slice A q.zs.length c], .int .i64 ((n - l.length : Nat) : Int), .int .i64 0]) ∧ q.zs.length ≤ c ∧ c ≤ maxLen ∧ Holds w B .u8 A q.zs
  | .error why => ∃ a b x, e = .returned (.tuple #[.agg #[.int .u8 a, .int .i64 b, .int .i64 x, .slice none 0 0], .int .i64 0, .int .i64 why])

theorem drop_cons {xs l : List Int} {i : Nat} {k : Int} (h : xs.drop i = k :: l) : i < xs.length ∧ xs.getD i 0 = k ∧ xs.drop (i + 1) = l := by
  have h1 : i < xs.length := by
    have := congrArg List.length h
    simp at this
    omega
  refine ⟨h1, ?_, ?_⟩
  · have := congrArg (fun z => z[0]?) h
    simp at this
    simp [List.getD, this]
  · have := congrArg (List.drop 1) h
    simpa [List.drop_drop] using this

theorem drop_tail {xs p r : List Int} {i : Nat} (h : xs.drop i = p ++ r) : r.length ≤ xs.length ∧ xs.drop (xs.length - r.length) = r := by
  have e : xs = (xs.take i ++ p) ++ r := by rw [List.append_assoc, ← h, List.take_append_drop]
  have hl := congrArg List.length e
  rw [List.length_append] at hl
  refine ⟨by omega, ?_⟩
  have hl2 : xs.length - r.length = (xs.take i ++ p).length := by omega
  rw [hl2]
  exact (congrArg (List.drop (xs.take i ++ p).length) e).trans List.drop_left

theorem numG_err : ∀ (f : Nat) (p x : Int) (l : List Int) (e : Int), numG f p x l = .error e → e = 2 ∨ e = 13
  | 0, p, x, l, e, h => by
    simp [numG] at h
    omega
  | f + 1, p, x, [], e, h => by
    simp [numG] at h
    omega
  | f + 1, p, x, c :: l, e, h => by
    rw [numG] at h
    split at h
    · split at h
      · injection h with h
        omega
      · cases h
    · exact numG_err f _ _ l e h

theorem dnum_ok (A : Option Addr) (xs : List Int) (c : Nat) (at_ : Nat) (x : Int) (r : List Int) (w : World) (hl : xs.length ≤ 1000000) (hc : xs.length ≤ c) (hm : c ≤ maxLen) (ho : Octets xs) (hr : Holds w w.heap.size .u8 A xs) (hat : at_ ≤ xs.length) (h : numG 5 1 0 (xs.drop at_) = .ok (x, r)) (m : Nat) (hmm : m + r.length = xs.length) :
    Calls Try.prog 31 #[.slice A xs.length c, .int .i64 at_] w fun e w' => e = .returned (.tuple #[.int .i64 x, .int .i64 m, .int .i64 0]) ∧ w = w' := by
  refine (dnum_any A xs c at_ w hl hc hm ho hr hat).mono ?_
  rintro e w' ⟨rfl, rfl⟩
  rw [h]
  refine ⟨?_, rfl⟩
  simp only [numV]
  rw [show (xs.length : Int) - (r.length : Int) = (m : Int) by omega]

theorem dnum_err (A : Option Addr) (xs : List Int) (c : Nat) (at_ : Nat) (why : Int) (w : World) (hl : xs.length ≤ 1000000) (hc : xs.length ≤ c) (hm : c ≤ maxLen) (ho : Octets xs) (hr : Holds w w.heap.size .u8 A xs) (hat : at_ ≤ xs.length) (h : numG 5 1 0 (xs.drop at_) = .error why) :
    Calls Try.prog 31 #[.slice A xs.length c, .int .i64 at_] w fun e w' => e = .returned (.tuple #[.int .i64 0, .int .i64 0, .int .i64 why]) ∧ w = w' := by
  refine (dnum_any A xs c at_ w hl hc hm ho hr hat).mono ?_
  rintro e w' ⟨rfl, rfl⟩
  rw [h]
  exact ⟨rfl, rfl⟩

set_option maxRecDepth 100000 in
set_option maxHeartbeats 3200000 in
theorem dstep_low (B b off : Nat) (xs : List Int) (c at_ : Nat) (k : Int) (l : List Int) (w : World) (hl : xs.length ≤ 1000000) (hc : xs.length ≤ c) (hm : c ≤ maxLen) (ho : Octets xs) (hr : Holds w B .u8 (some ⟨b, off, none⟩) xs) (hB : B ≤ w.heap.size) (hb : b < w.heap.size) (hdr : xs.drop at_ = k :: l) (hk : k < 1) :
    Calls Try.prog 25 #[.slice (some ⟨b, off, none⟩) xs.length c, .int .i64 at_] w (DTold B xs.length w (.error 13)) := by
  obtain ⟨hat, hk0, hdl⟩ := drop_cons hdr
  have hb2 : Below w.heap.size w ((w.alloc (.cells #[.int .u8 0, .int .i64 0, .int .i64 0, .slice none 0 0] 28)).alloc (.cells #[.int .u8 k, .int .i64 0, .int .i64 0, .slice none 0 0] 28)) := ((Below.refl _ _).alloc (Nat.le_refl _) _).alloc (by simp) _
  have b4 := (Block.new w 28 #[.int .u8 0, .int .i64 0, .int .i64 0, .slice none 0 0]).alloc (.cells #[.int .u8 k, .int .i64 0, .int .i64 0, .slice none 0 0] 28)
  have b7 : Block ((w.alloc (.cells #[.int .u8 0, .int .i64 0, .int .i64 0, .slice none 0 0] 28)).alloc (.cells #[.int .u8 k, .int .i64 0, .int .i64 0, .slice none 0 0] 28)) (w.heap.size + 1) 28 #[.int .u8 k, .int .i64 0, .int .i64 0, .slice none 0 0] := by
    have := Block.new (w.alloc (.cells #[.int .u8 0, .int .i64 0, .int .i64 0, .slice none 0 0] 28)) 28 #[.int .u8 k, .int .i64 0, .int .i64 0, .slice none 0 0]
    simpa using this
  have hrW := (hr.below (hb2.mono hB)).more (Nat.le_trans hB hb2.size)
  obtain ⟨b', off', he, _, hcs⟩ := hr (by omega)
  injection he with he
  injection he with e1 e2
  subst e1 e2
  have d0 := hcs at_ hat
  obtain ⟨_, _, he, _, hcs2⟩ := hrW (by omega)
  injection he with he
  injection he with e1 e2
  subst e1 e2
  have d2 := hcs2 at_ hat
  rw [hk0] at d0 d2
  clear hcs hcs2 hdr hk0 hr
  have g0 : decide (k < 1) = true := decide_eq_true hk
  clear hk
  go_enter Try.func25, Try.ntmps25
  go_upto_region 2 with (fail)
  generalize ((w.alloc (.cells #[.int .u8 0, .int .i64 0, .int .i64 0, .slice none 0 0] 28)).alloc (.cells #[.int .u8 k, .int .i64 0, .int .i64 0, .slice none 0 0] 28)) = W at *
  clear d0
  have q0 := b7.cellOf 0 (u := .int .u8 k) rfl
  have q1 := b7.cellOf 1 (u := .int .i64 0) rfl
  have q2 := b7.cellOf 2 (u := .int .i64 0) rfl
  have q3 := b7.cellOf 3 (u := .slice none 0 0) rfl
  have ez0 := b4.cellOf 0 (u := .int .u8 0) rfl
  have ez1 := b4.cellOf 1 (u := .int .i64 0) rfl
  have ez2 := b4.cellOf 2 (u := .int .i64 0) rfl
  have ez3 := b4.cellOf 3 (u := .slice none 0 0) rfl
  have ff := fun i => b4.frozen i
  have b4z := b4
  have hbz := hb2
  go_wp2_with fail
  have b9 := (((b4z.set_ 0 (.int .u8 k)).set_ 1 (.int .i64 0)).set_ 2 (.int .i64 0)).set_ 3 (.slice none 0 0)
  have hb9 := (((hbz.setCell (p := ⟨w.heap.size, 0, none⟩) (Nat.le_refl _) (.int .u8 k)).setCell (p := ⟨w.heap.size, 1, none⟩) (Nat.le_refl _) (.int .i64 0)).setCell (p := ⟨w.heap.size, 2, none⟩) (Nat.le_refl _) (.int .i64 0)).setCell (p := ⟨w.heap.size, 3, none⟩) (Nat.le_refl _) (.slice none 0 0)
  have c0 := b9.cellOf 0 (u := .int .u8 k) rfl
  have c1 := b9.cellOf 1 (u := .int .i64 0) rfl
  have c2 := b9.cellOf 2 (u := .int .i64 0) rfl
  have c3 := b9.cellOf 3 (u := .slice none 0 0) rfl
  refine bodyPost_ret (v := .tuple #[.agg #[.int .u8 k, .int .i64 0, .int .i64 0, .slice none 0 0], .int .i64 0, .int .i64 13]) ?_ rfl ⟨hb9, _, _, _, rfl⟩
  simp [results, Try.results25, go_sem, c0, c1, c2, c3]

set_option maxRecDepth 100000 in
set_option maxHeartbeats 3200000 in
theorem dstep_high (B b off : Nat) (xs : List Int) (c at_ : Nat) (k : Int) (l : List Int) (w : World) (hl : xs.length ≤ 1000000) (hc : xs.length ≤ c) (hm : c ≤ maxLen) (ho : Octets xs) (hr : Holds w B .u8 (some ⟨b, off, none⟩) xs) (hB : B ≤ w.heap.size) (hb : b < w.heap.size) (hdr : xs.drop at_ = k :: l) (hk : 3 < k) :
    Calls Try.prog 25 #[.slice (some ⟨b, off, none⟩) xs.length c, .int .i64 at_] w (DTold B xs.length w (.error 13)) := by
  obtain ⟨hat, hk0, hdl⟩ := drop_cons hdr
  have hb2 : Below w.heap.size w ((w.alloc (.cells #[.int .u8 0, .int .i64 0, .int .i64 0, .slice none 0 0] 28)).alloc (.cells #[.int .u8 k, .int .i64 0, .int .i64 0, .slice none 0 0] 28)) := ((Below.refl _ _).alloc (Nat.le_refl _) _).alloc (by simp) _
  have b4 := (Block.new w 28 #[.int .u8 0, .int .i64 0, .int .i64 0, .slice none 0 0]).alloc (.cells #[.int .u8 k, .int .i64 0, .int .i64 0, .slice none 0 0] 28)
  have b7 : Block ((w.alloc (.cells #[.int .u8 0, .int .i64 0, .int .i64 0, .slice none 0 0] 28)).alloc (.cells #[.int .u8 k, .int .i64 0, .int .i64 0, .slice none 0 0] 28)) (w.heap.size + 1) 28 #[.int .u8 k, .int .i64 0, .int .i64 0, .slice none 0 0] := by
    have := Block.new (w.alloc (.cells #[.int .u8 0, .int .i64 0, .int .i64 0, .slice none 0 0] 28)) 28 #[.int .u8 k, .int .i64 0, .int .i64 0, .slice none 0 0]
    simpa using this
  have hrW := (hr.below (hb2.mono hB)).more (Nat.le_trans hB hb2.size)
  obtain ⟨b', off', he, _, hcs⟩ := hr (by omega)
  injection he with he
  injection he with e1 e2
  subst e1 e2
  have d0 := hcs at_ hat
  obtain ⟨_, _, he, _, hcs2⟩ := hrW (by omega)
  injection he with he
  injection he with e1 e2
  subst e1 e2
  have d2 := hcs2 at_ hat
  rw [hk0] at d0 d2
  clear hcs hcs2 hdr hk0 hr
  have g0 : decide (k < 1) = false := decide_eq_false (by omega)
  have g1 : decide ((3 : Int) < k) = true := decide_eq_true hk
  clear hk
  go_enter Try.func25, Try.ntmps25
  go_upto_region 2 with (fail)
  generalize ((w.alloc (.cells #[.int .u8 0, .int .i64 0, .int .i64 0, .slice none 0 0] 28)).alloc (.cells #[.int .u8 k, .int .i64 0, .int .i64 0, .slice none 0 0] 28)) = W at *
  clear d0
  have q0 := b7.cellOf 0 (u := .int .u8 k) rfl
  have q1 := b7.cellOf 1 (u := .int .i64 0) rfl
  have q2 := b7.cellOf 2 (u := .int .i64 0) rfl
  have q3 := b7.cellOf 3 (u := .slice none 0 0) rfl
  have ez0 := b4.cellOf 0 (u := .int .u8 0) rfl
  have ez1 := b4.cellOf 1 (u := .int .i64 0) rfl
  have ez2 := b4.cellOf 2 (u := .int .i64 0) rfl
  have ez3 := b4.cellOf 3 (u := .slice none 0 0) rfl
  have ff := fun i => b4.frozen i
  have b4z := b4
  have hbz := hb2
  go_wp2_with fail
  have b9 := (((b4z.set_ 0 (.int .u8 k)).set_ 1 (.int .i64 0)).set_ 2 (.int .i64 0)).set_ 3 (.slice none 0 0)
  have hb9 := (((hbz.setCell (p := ⟨w.heap.size, 0, none⟩) (Nat.le_refl _) (.int .u8 k)).setCell (p := ⟨w.heap.size, 1, none⟩) (Nat.le_refl _) (.int .i64 0)).setCell (p := ⟨w.heap.size, 2, none⟩) (Nat.le_refl _) (.int .i64 0)).setCell (p := ⟨w.heap.size, 3, none⟩) (Nat.le_refl _) (.slice none 0 0)
  have c0 := b9.cellOf 0 (u := .int .u8 k) rfl
  have c1 := b9.cellOf 1 (u := .int .i64 0) rfl
  have c2 := b9.cellOf 2 (u := .int .i64 0) rfl
  have c3 := b9.cellOf 3 (u := .slice none 0 0) rfl
  refine bodyPost_ret (v := .tuple #[.agg #[.int .u8 k, .int .i64 0, .int .i64 0, .slice none 0 0], .int .i64 0, .int .i64 13]) ?_ rfl ⟨hb9, _, _, _, rfl⟩
  simp [results, Try.results25, go_sem, c0, c1, c2, c3]

set_option maxRecDepth 100000 in
set_option maxHeartbeats 3200000 in
theorem dstep_first (B b off : Nat) (xs : List Int) (c at_ : Nat) (k : Int) (l : List Int) (w : World) (hl : xs.length ≤ 1000000) (hc : xs.length ≤ c) (hm : c ≤ maxLen) (ho : Octets xs) (hr : Holds w B .u8 (some ⟨b, off, none⟩) xs) (hB : B ≤ w.heap.size) (hb : b < w.heap.size) (hdr : xs.drop at_ = k :: l) (hk : 1 ≤ k ∧ k ≤ 3) (why : Int) (hn : numG 5 1 0 l = .error why) :
    Calls Try.prog 25 #[.slice (some ⟨b, off, none⟩) xs.length c, .int .i64 at_] w (DTold B xs.length w (.error why)) := by
  obtain ⟨hat, hk0, hdl⟩ := drop_cons hdr
  have hb2 : Below w.heap.size w ((w.alloc (.cells #[.int .u8 0, .int .i64 0, .int .i64 0, .slice none 0 0] 28)).alloc (.cells #[.int .u8 k, .int .i64 0, .int .i64 0, .slice none 0 0] 28)) := ((Below.refl _ _).alloc (Nat.le_refl _) _).alloc (by simp) _
  have b4 := (Block.new w 28 #[.int .u8 0, .int .i64 0, .int .i64 0, .slice none 0 0]).alloc (.cells #[.int .u8 k, .int .i64 0, .int .i64 0, .slice none 0 0] 28)
  have b7 : Block ((w.alloc (.cells #[.int .u8 0, .int .i64 0, .int .i64 0, .slice none 0 0] 28)).alloc (.cells #[.int .u8 k, .int .i64 0, .int .i64 0, .slice none 0 0] 28)) (w.heap.size + 1) 28 #[.int .u8 k, .int .i64 0, .int .i64 0, .slice none 0 0] := by
    have := Block.new (w.alloc (.cells #[.int .u8 0, .int .i64 0, .int .i64 0, .slice none 0 0] 28)) 28 #[.int .u8 k, .int .i64 0, .int .i64 0, .slice none 0 0]
    simpa using this
  have hrW := (hr.below (hb2.mono hB)).more (Nat.le_trans hB hb2.size)
  obtain ⟨b', off', he, _, hcs⟩ := hr (by omega)
  injection he with he
  injection he with e1 e2
  subst e1 e2
  have d0 := hcs at_ hat
  obtain ⟨_, _, he, _, hcs2⟩ := hrW (by omega)
  injection he with he
  injection he with e1 e2
  subst e1 e2
  have d2 := hcs2 at_ hat
  rw [hk0] at d0 d2
  clear hcs hcs2 hdr hk0 hr
  have g0 : decide (k < 1) = false := decide_eq_false (by omega)
  have g1 : decide ((3 : Int) < k) = false := decide_eq_false (by omega)
  have hw : (why != 0) = true := by rcases numG_err _ _ _ _ _ hn with h | h <;> simp [h]
  go_enter Try.func25, Try.ntmps25
  go_upto_region 2 with (fail)
  generalize ((w.alloc (.cells #[.int .u8 0, .int .i64 0, .int .i64 0, .slice none 0 0] 28)).alloc (.cells #[.int .u8 k, .int .i64 0, .int .i64 0, .slice none 0 0] 28)) = W at *
  clear d0
  have G := Lib.hid (dnum_err _ xs c (at_ + 1) why W hl hc hm ho hrW (by omega) (by rw [hdl]; exact hn))
  rw [show ((at_ + 1 : Nat) : Int) = (at_ : Int) + 1 by omega] at G
  have q0 := b7.cellOf 0 (u := .int .u8 k) rfl
  have q1 := b7.cellOf 1 (u := .int .i64 0) rfl
  have q2 := b7.cellOf 2 (u := .int .i64 0) rfl
  have q3 := b7.cellOf 3 (u := .slice none 0 0) rfl
  have ez0 := b4.cellOf 0 (u := .int .u8 0) rfl
  have ez1 := b4.cellOf 1 (u := .int .i64 0) rfl
  have ez2 := b4.cellOf 2 (u := .int .i64 0) rfl
  have ez3 := b4.cellOf 3 (u := .slice none 0 0) rfl
  have ff := fun i => b4.frozen i
  have b4z := b4
  have hbz := hb2
  clear hn
  go_wp2_with (go_at_call 31; refine G.out.mono ?_; rintro e w3 ⟨rfl, rfl⟩)
  have b9 := (((b4z.set_ 0 (.int .u8 k)).set_ 1 (.int .i64 0)).set_ 2 (.int .i64 0)).set_ 3 (.slice none 0 0)
  have hb9 := (((hbz.setCell (p := ⟨w.heap.size, 0, none⟩) (Nat.le_refl _) (.int .u8 k)).setCell (p := ⟨w.heap.size, 1, none⟩) (Nat.le_refl _) (.int .i64 0)).setCell (p := ⟨w.heap.size, 2, none⟩) (Nat.le_refl _) (.int .i64 0)).setCell (p := ⟨w.heap.size, 3, none⟩) (Nat.le_refl _) (.slice none 0 0)
  have c0 := b9.cellOf 0 (u := .int .u8 k) rfl
  have c1 := b9.cellOf 1 (u := .int .i64 0) rfl
  have c2 := b9.cellOf 2 (u := .int .i64 0) rfl
  have c3 := b9.cellOf 3 (u := .slice none 0 0) rfl
  refine bodyPost_ret (v := .tuple #[.agg #[.int .u8 k, .int .i64 0, .int .i64 0, .slice none 0 0], .int .i64 0, .int .i64 why]) ?_ rfl ⟨hb9, _, _, _, rfl⟩
  simp [results, Try.results25, go_sem, c0, c1, c2, c3]

set_option maxRecDepth 100000 in
set_option maxHeartbeats 3200000 in
theorem dstep_wide (B b off : Nat) (xs : List Int) (c at_ : Nat) (k : Int) (l : List Int) (w : World) (hl : xs.length ≤ 1000000) (hc : xs.length ≤ c) (hm : c ≤ maxLen) (ho : Octets xs) (hr : Holds w B .u8 (some ⟨b, off, none⟩) xs) (hB : B ≤ w.heap.size) (hb : b < w.heap.size) (hdr : xs.drop at_ = k :: l) (n : Int) (r1 : List Int) (hn : numG 5 1 0 l = .ok (n, r1)) (hk : k = 1) (hx : n < 1 ∨ 1 ≤ n ∧ 4096 < n) :
    Calls Try.prog 25 #[.slice (some ⟨b, off, none⟩) xs.length c, .int .i64 at_] w (DTold B xs.length w (.error 13)) := by
  obtain ⟨hat, hk0, hdl⟩ := drop_cons hdr
  have hb2 : Below w.heap.size w ((w.alloc (.cells #[.int .u8 0, .int .i64 0, .int .i64 0, .slice none 0 0] 28)).alloc (.cells #[.int .u8 k, .int .i64 0, .int .i64 0, .slice none 0 0] 28)) := ((Below.refl _ _).alloc (Nat.le_refl _) _).alloc (by simp) _
  have b4 := (Block.new w 28 #[.int .u8 0, .int .i64 0, .int .i64 0, .slice none 0 0]).alloc (.cells #[.int .u8 k, .int .i64 0, .int .i64 0, .slice none 0 0] 28)
  have b7 : Block ((w.alloc (.cells #[.int .u8 0, .int .i64 0, .int .i64 0, .slice none 0 0] 28)).alloc (.cells #[.int .u8 k, .int .i64 0, .int .i64 0, .slice none 0 0] 28)) (w.heap.size + 1) 28 #[.int .u8 k, .int .i64 0, .int .i64 0, .slice none 0 0] := by
    have := Block.new (w.alloc (.cells #[.int .u8 0, .int .i64 0, .int .i64 0, .slice none 0 0] 28)) 28 #[.int .u8 k, .int .i64 0, .int .i64 0, .slice none 0 0]
    simpa using this
  have hrW := (hr.below (hb2.mono hB)).more (Nat.le_trans hB hb2.size)
  obtain ⟨b', off', he, _, hcs⟩ := hr (by omega)
  injection he with he
  injection he with e1 e2
  subst e1 e2
  have d0 := hcs at_ hat
  obtain ⟨_, _, he, _, hcs2⟩ := hrW (by omega)
  injection he with he
  injection he with e1 e2
  subst e1 e2
  have d2 := hcs2 at_ hat
  rw [hk0] at d0 d2
  clear hcs hcs2 hdr hk0 hr
  have g0 : decide (k < 1) = false := decide_eq_false (by omega)
  have g1 : decide ((3 : Int) < k) = false := decide_eq_false (by omega)
  obtain ⟨e1, n0, n1⟩ := num_is (fun x hx => ho x (by rw [← List.take_append_drop (at_ + 1) xs, hdl]; exact List.mem_append_right _ hx)) hn
  obtain ⟨m1, hm1⟩ : ∃ m, m + r1.length = xs.length := ⟨xs.length - r1.length, by have := (drop_tail (hdl.trans e1)).1; omega⟩
  have hd1 : xs.drop m1 = r1 := by have := (drop_tail (hdl.trans e1)).2; rw [show xs.length - r1.length = m1 by omega] at this; exact this
  have g2 : decide ((1 : Int) < k) = false := decide_eq_false (by omega)
  have g7 : (k == 2) = false := by rw [beq_eq_false_iff_ne]; omega
  clear hk
  go_enter Try.func25, Try.ntmps25
  go_upto_region 2 with (fail)
  generalize ((w.alloc (.cells #[.int .u8 0, .int .i64 0, .int .i64 0, .slice none 0 0] 28)).alloc (.cells #[.int .u8 k, .int .i64 0, .int .i64 0, .slice none 0 0] 28)) = W at *
  clear d0
  have G := Lib.hid (dnum_ok _ xs c (at_ + 1) n r1 W hl hc hm ho hrW (by omega) (by rw [hdl]; exact hn) m1 hm1)
  rw [show ((at_ + 1 : Nat) : Int) = (at_ : Int) + 1 by omega] at G
  have z2 := b7.frozen 2
  have p2 := b7.cellOf 2 (u := .int .i64 0) rfl
  have b7b := b7.set_ 2 (.int .i64 n)
  have b4b := Block.far b4 (p := ⟨w.heap.size + 1, 2, none⟩) (by simp) (.int .i64 n)
  have hbb := hb2.setCell (p := ⟨w.heap.size + 1, 2, none⟩) (Nat.le_succ _) (.int .i64 n)
  have q0 := b7b.cellOf 0 (u := .int .u8 k) rfl
  have q1 := b7b.cellOf 1 (u := .int .i64 0) rfl
  have q2 := b7b.cellOf 2 (u := .int .i64 n) rfl
  have q3 := b7b.cellOf 3 (u := .slice none 0 0) rfl
  have ez0 := b4b.cellOf 0 (u := .int .u8 0) rfl
  have ez1 := b4b.cellOf 1 (u := .int .i64 0) rfl
  have ez2 := b4b.cellOf 2 (u := .int .i64 0) rfl
  have ez3 := b4b.cellOf 3 (u := .slice none 0 0) rfl
  have ff := fun i => b4b.frozen i
  have b4z := b4b
  have hbz := hbb
  clear hn hm1 hd1 hdl e1 n1
  rcases hx with h1 | ⟨h1, h2⟩
  · have g3 : decide (n < 1) = true := decide_eq_true h1
    go_wp2_with (go_at_call 31; refine G.out.mono ?_; rintro e w3 ⟨rfl, rfl⟩; clear G)
    have b9 := (((b4z.set_ 0 (.int .u8 k)).set_ 1 (.int .i64 0)).set_ 2 (.int .i64 n)).set_ 3 (.slice none 0 0)
    have hb9 := (((hbz.setCell (p := ⟨w.heap.size, 0, none⟩) (Nat.le_refl _) (.int .u8 k)).setCell (p := ⟨w.heap.size, 1, none⟩) (Nat.le_refl _) (.int .i64 0)).setCell (p := ⟨w.heap.size, 2, none⟩) (Nat.le_refl _) (.int .i64 n)).setCell (p := ⟨w.heap.size, 3, none⟩) (Nat.le_refl _) (.slice none 0 0)
    have c0 := b9.cellOf 0 (u := .int .u8 k) rfl
    have c1 := b9.cellOf 1 (u := .int .i64 0) rfl
    have c2 := b9.cellOf 2 (u := .int .i64 n) rfl
    have c3 := b9.cellOf 3 (u := .slice none 0 0) rfl
    refine bodyPost_ret (v := .tuple #[.agg #[.int .u8 k, .int .i64 0, .int .i64 n, .slice none 0 0], .int .i64 0, .int .i64 13]) ?_ rfl ⟨hb9, _, _, _, rfl⟩
    simp [results, Try.results25, go_sem, c0, c1, c2, c3]
  · have g3 : decide (n < 1) = false := decide_eq_false (by omega)
    have g4 : decide ((4096 : Int) < n) = true := decide_eq_true h2
    go_wp2_with (go_at_call 31; refine G.out.mono ?_; rintro e w3 ⟨rfl, rfl⟩; clear G)
    have b9 := (((b4z.set_ 0 (.int .u8 k)).set_ 1 (.int .i64 0)).set_ 2 (.int .i64 n)).set_ 3 (.slice none 0 0)
    have hb9 := (((hbz.setCell (p := ⟨w.heap.size, 0, none⟩) (Nat.le_refl _) (.int .u8 k)).setCell (p := ⟨w.heap.size, 1, none⟩) (Nat.le_refl _) (.int .i64 0)).setCell (p := ⟨w.heap.size, 2, none⟩) (Nat.le_refl _) (.int .i64 n)).setCell (p := ⟨w.heap.size, 3, none⟩) (Nat.le_refl _) (.slice none 0 0)
    have c0 := b9.cellOf 0 (u := .int .u8 k) rfl
    have c1 := b9.cellOf 1 (u := .int .i64 0) rfl
    have c2 := b9.cellOf 2 (u := .int .i64 n) rfl
    have c3 := b9.cellOf 3 (u := .slice none 0 0) rfl
    refine bodyPost_ret (v := .tuple #[.agg #[.int .u8 k, .int .i64 0, .int .i64 n, .slice none 0 0], .int .i64 0, .int .i64 13]) ?_ rfl ⟨hb9, _, _, _, rfl⟩
    simp [results, Try.results25, go_sem, c0, c1, c2, c3]

set_option maxRecDepth 100000 in
set_option maxHeartbeats 3200000 in
theorem dstep_short (B b off : Nat) (xs : List Int) (c at_ : Nat) (k : Int) (l : List Int) (w : World) (hl : xs.length ≤ 1000000) (hc : xs.length ≤ c) (hm : c ≤ maxLen) (ho : Octets xs) (hr : Holds w B .u8 (some ⟨b, off, none⟩) xs) (hB : B ≤ w.heap.size) (hb : b < w.heap.size) (hdr : xs.drop at_ = k :: l) (n : Int) (r1 : List Int) (hn : numG 5 1 0 l = .ok (n, r1)) (hk : k = 1) (hn1 : 1 ≤ n ∧ n ≤ 4096) (hx : (r1.length : Int) < n) :
    Calls Try.prog 25 #[.slice (some ⟨b, off, none⟩) xs.length c, .int .i64 at_] w (DTold B xs.length w (.error 2)) := by
  obtain ⟨hat, hk0, hdl⟩ := drop_cons hdr
  have hb2 : Below w.heap.size w ((w.alloc (.cells #[.int .u8 0, .int .i64 0, .int .i64 0, .slice none 0 0] 28)).alloc (.cells #[.int .u8 k, .int .i64 0, .int .i64 0, .slice none 0 0] 28)) := ((Below.refl _ _).alloc (Nat.le_refl _) _).alloc (by simp) _
  have b4 := (Block.new w 28 #[.int .u8 0, .int .i64 0, .int .i64 0, .slice none 0 0]).alloc (.cells #[.int .u8 k, .int .i64 0, .int .i64 0, .slice none 0 0] 28)
  have b7 : Block ((w.alloc (.cells #[.int .u8 0, .int .i64 0, .int .i64 0, .slice none 0 0] 28)).alloc (.cells #[.int .u8 k, .int .i64 0, .int .i64 0, .slice none 0 0] 28)) (w.heap.size + 1) 28 #[.int .u8 k, .int .i64 0, .int .i64 0, .slice none 0 0] := by
    have := Block.new (w.alloc (.cells #[.int .u8 0, .int .i64 0, .int .i64 0, .slice none 0 0] 28)) 28 #[.int .u8 k, .int .i64 0, .int .i64 0, .slice none 0 0]
    simpa using this
  have hrW := (hr.below (hb2.mono hB)).more (Nat.le_trans hB hb2.size)
  obtain ⟨b', off', he, _, hcs⟩ := hr (by omega)
  injection he with he
  injection he with e1 e2
  subst e1 e2
  have d0 := hcs at_ hat
  obtain ⟨_, _, he, _, hcs2⟩ := hrW (by omega)
  injection he with he
  injection he with e1 e2
  subst e1 e2
  have d2 := hcs2 at_ hat
  rw [hk0] at d0 d2
  clear hcs hcs2 hdr hk0 hr
  have g0 : decide (k < 1) = false := decide_eq_false (by omega)
  have g1 : decide ((3 : Int) < k) = false := decide_eq_false (by omega)
  obtain ⟨e1, n0, n1⟩ := num_is (fun x hx => ho x (by rw [← List.take_append_drop (at_ + 1) xs, hdl]; exact List.mem_append_right _ hx)) hn
  obtain ⟨m1, hm1⟩ : ∃ m, m + r1.length = xs.length := ⟨xs.length - r1.length, by have := (drop_tail (hdl.trans e1)).1; omega⟩
  have hd1 : xs.drop m1 = r1 := by have := (drop_tail (hdl.trans e1)).2; rw [show xs.length - r1.length = m1 by omega] at this; exact this
  have g3 : decide (n < 1) = false := decide_eq_false (by omega)
  have g4 : decide ((4096 : Int) < n) = false := decide_eq_false (by omega)
  have g2 : decide ((1 : Int) < k) = false := decide_eq_false (by omega)
  have g7 : (k == 2) = false := by rw [beq_eq_false_iff_ne]; omega
  clear hk
  go_enter Try.func25, Try.ntmps25
  go_upto_region 2 with (fail)
  generalize ((w.alloc (.cells #[.int .u8 0, .int .i64 0, .int .i64 0, .slice none 0 0] 28)).alloc (.cells #[.int .u8 k, .int .i64 0, .int .i64 0, .slice none 0 0] 28)) = W at *
  clear d0
  have G := Lib.hid (dnum_ok _ xs c (at_ + 1) n r1 W hl hc hm ho hrW (by omega) (by rw [hdl]; exact hn) m1 hm1)
  rw [show ((at_ + 1 : Nat) : Int) = (at_ : Int) + 1 by omega] at G
  have z2 := b7.frozen 2
  have p2 := b7.cellOf 2 (u := .int .i64 0) rfl
  have b7b := b7.set_ 2 (.int .i64 n)
  have b4b := Block.far b4 (p := ⟨w.heap.size + 1, 2, none⟩) (by simp) (.int .i64 n)
  have hbb := hb2.setCell (p := ⟨w.heap.size + 1, 2, none⟩) (Nat.le_succ _) (.int .i64 n)
  have q0 := b7b.cellOf 0 (u := .int .u8 k) rfl
  have q1 := b7b.cellOf 1 (u := .int .i64 0) rfl
  have q2 := b7b.cellOf 2 (u := .int .i64 n) rfl
  have q3 := b7b.cellOf 3 (u := .slice none 0 0) rfl
  have ez0 := b4b.cellOf 0 (u := .int .u8 0) rfl
  have ez1 := b4b.cellOf 1 (u := .int .i64 0) rfl
  have ez2 := b4b.cellOf 2 (u := .int .i64 0) rfl
  have ez3 := b4b.cellOf 3 (u := .slice none 0 0) rfl
  have ff := fun i => b4b.frozen i
  have b4z := b4b
  have hbz := hbb
  have g5 : decide ((xs.length : Int) - (m1 : Int) < n) = true := decide_eq_true (by omega)
  clear hn hd1 hdl e1 n1
  go_wp2_with (go_at_call 31; refine G.out.mono ?_; rintro e w3 ⟨rfl, rfl⟩; clear G)
  have b9 := (((b4z.set_ 0 (.int .u8 k)).set_ 1 (.int .i64 0)).set_ 2 (.int .i64 n)).set_ 3 (.slice none 0 0)
  have hb9 := (((hbz.setCell (p := ⟨w.heap.size, 0, none⟩) (Nat.le_refl _) (.int .u8 k)).setCell (p := ⟨w.heap.size, 1, none⟩) (Nat.le_refl _) (.int .i64 0)).setCell (p := ⟨w.heap.size, 2, none⟩) (Nat.le_refl _) (.int .i64 n)).setCell (p := ⟨w.heap.size, 3, none⟩) (Nat.le_refl _) (.slice none 0 0)
  have c0 := b9.cellOf 0 (u := .int .u8 k) rfl
  have c1 := b9.cellOf 1 (u := .int .i64 0) rfl
  have c2 := b9.cellOf 2 (u := .int .i64 n) rfl
  have c3 := b9.cellOf 3 (u := .slice none 0 0) rfl
  refine bodyPost_ret (v := .tuple #[.agg #[.int .u8 k, .int .i64 0, .int .i64 n, .slice none 0 0], .int .i64 0, .int .i64 2]) ?_ rfl ⟨hb9, _, _, _, rfl⟩
  simp [results, Try.results25, go_sem, c0, c1, c2, c3]

end Go.Proofs.Ytjcofmeknpgjnaa.Pl
