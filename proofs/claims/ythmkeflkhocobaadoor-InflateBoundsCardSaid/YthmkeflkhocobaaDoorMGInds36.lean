/-
  Layer 12, deflate: stored blocks; how long a packed text is at most; the document's examples: contracts. Conditions: as each theorem names.
  Layer 12, deflate: the document's examples. Conditions: the tables hold what the program's text lays.
-/
import Derived.Test.YthmkeflkhocobaaDoorMDfS
import Derived.Test.YthmkeflkhocobaaDoorMBitW
import Derived.Test.YthmkeflkhocobaaDoorMGInds2
import Derived.Laws.BitsAllLaws
import Derived.Lib.QuietBelow
namespace Go.Proofs.YthmkeflkhocobaaDoor.Df
open Go.ChangeShapes Go.WideShapes Go.ChangeAt Go.RowKit Go.Proofs.YthmkeflkhocobaaDoor.Kit Go.Proofs.YthmkeflkhocobaaDoor.Bits

def clampM (n : Int) : Int := if n < 0 then 0 else if 2147483647 < n then 2147483647 else n
def mostF (n : Int) : Int := clampM n + 5 * (if clampM n = 0 then 1 else (clampM n + 65534) / 65535)

theorem clampM_bd (n : Int) : 0 ≤ clampM n ∧ clampM n ≤ 2147483647 := by
  unfold clampM
  by_cases h0 : n < 0
  · rw [if_pos h0]; omega
  · rw [if_neg h0]
    by_cases h1 : 2147483647 < n
    · rw [if_pos h1]; omega
    · rw [if_neg h1]; omega
theorem clampM_eq (n : Int) : (if 2147483647 < (if n < 0 then 0 else n) then 2147483647 else (if n < 0 then 0 else n)) = clampM n := by
  unfold clampM
  by_cases h0 : n < 0
  · rw [if_pos h0, if_pos h0]; rfl
  · rw [if_neg h0, if_neg h0]

theorem ret_int {k : IntKind} {a b : Int} (h : a = b) : Ending.returned (.int k a) = .returned (.int k b) := by rw [h]

set_option maxHeartbeats 800000 in
theorem rmost_any (n : Int) (w : World) (hn : -9223372036854775808 ≤ n ∧ n ≤ 9223372036854775807) : Calls Tryd.prog 17 #[.int .i64 n] w fun e w' => e = .returned (.int .i64 (mostF n)) ∧ w' = w := by
  by_cases h0 : n < 0
  · rw [show mostF n = 5 by unfold mostF clampM; rw [if_pos h0]; rfl]
    go_enter Tryd.func17, Tryd.ntmps17
    go_wp2
    go_ret
    exact ⟨rfl, rfl⟩
  · by_cases h1 : 2147483647 < n
    · rw [show mostF n = 2147647492 by unfold mostF clampM; rw [if_neg h0, if_pos h1]; rfl]
      go_enter Tryd.func17, Tryd.ntmps17
      go_wp2
      go_ret
      exact ⟨rfl, rfl⟩
    · have hc : clampM n = n := by unfold clampM; rw [if_neg h0, if_neg h1]
      by_cases hz : n = 0
      · subst hz
        rw [show mostF 0 = 5 by rfl]
        go_enter Tryd.func17, Tryd.ntmps17
        go_wp2
        go_ret
        exact ⟨rfl, rfl⟩
      · have hnz : (n == 0) = false := by rw [beq_eq_false_iff_ne]; exact hz
        obtain ⟨q, hq⟩ : ∃ q, n / 65535 = q := ⟨_, rfl⟩
        have hM : mostF n = n + 5 * (if 0 < n % 65535 then q + 1 else q) := by
          unfold mostF
          rw [hc, if_neg hz]
          by_cases hm : 0 < n % 65535
          · rw [if_pos hm]; omega
          · rw [if_neg hm]; omega
        rw [hM]
        clear hM hc
        by_cases hm : 0 < n % 65535
        · rw [if_pos hm]
          go_enter Tryd.func17, Tryd.ntmps17
          go_wp2
          go_ret
          exact ⟨rfl, rfl⟩
        · rw [if_neg hm]
          have hm0 : n % 65535 = 0 := by omega
          go_enter Tryd.func17, Tryd.ntmps17
          go_wp2
          go_ret
          exact ⟨rfl, rfl⟩

/-! ### Stored blocks -/

theorem puts_then {B g : Nat} {m : List Int} {v v1 : Value} {w w1 : World} (t1 : TurnsIn (foot g v) w w1) (n1 : Newer w v v1) {e : Ending} {w2 : World} (h : Puts B g m v1 w1 e w2) : Puts B g m v w e w2 := by
  obtain ⟨he, v2, W2, t2, n2⟩ := h
  exact ⟨he, v2, W2, t1.then_ t2 (fun b hb hf => by
    rcases hf with hf | hf
    · exact .inl hf
    · exact new_foot n1 hb hf), n1.trans t1.size n2⟩

set_option maxHeartbeats 800000 in
theorem begin_any (B g : Nat) (last : Bool) (k : Int) (hk : 0 ≤ k ∧ k < 4) (m : List Int) (v : Value) (w : World) (W : Wr w B g v m) (hB : B ≤ w.heap.size) (hlen : m.length ≤ 100000) :
    Calls Tryd.prog 36 #[.pointer (some ⟨g, 0, none⟩), .bool last, .int .u32 k] w (Puts B g (m ++ num (if last then 1 else 0) 1 ++ num k 2) v w) := by
  have G := Lib.hid (fun (x : Int) (hx : 0 ≤ x ∧ x < 4294967296) => put_any B g x 1 1 m v w hx (by omega) rfl W hB (by omega))
  cases last
  all_goals
    simp only [if_true, if_false, Bool.false_eq_true]
    go_enter Tryd.func36, Tryd.ntmps36
    go_wp2_with fail
    refine (G.out _ (by omega)).mono ?_
    rintro e w1 ⟨rfl, v1, W1, t1, n1⟩
    have hs1 := t1.size
    go_wp2_with fail
    refine (put_any B g k 2 2 _ v1 w1 (by omega) (by omega) rfl W1 (by omega) (by simp [num_length]; omega)).mono ?_
    rintro e w2 ⟨rfl, h2⟩
    go_wp2_with fail
    go_end0
    exact puts_then t1 n1 ⟨rfl, h2⟩

/-- A text of at most 65535 bytes, in a stored block. -/
def stB (b : List Int) : List Int := [1, (b.length : Int) % 256, (b.length : Int) / 256, 255 - (b.length : Int) % 256, 255 - (b.length : Int) / 256] ++ b

theorem stB_length (b : List Int) : (stB b).length = 5 + b.length := by simp [stB]; omega

theorem num_low (x y : Int) (n : Nat) (h : x % 2 ^ n = y % 2 ^ n) : num x n = num y n := by
  have h1 := num_val (num_bit n x)
  have h2 := num_val (num_bit n y)
  rw [val_num, num_length] at h1 h2
  rw [← h1, ← h2, h]

theorem head_bits (n : Int) (h : 0 ≤ n ∧ n ≤ 65535) : pad ([] ++ num 1 1 ++ num 0 2) ++ num n 16 ++ num (4294967295 - n) 16 = bitsOf [1, n % 256, n / 256, 255 - n % 256, 255 - n / 256] := by
  have e1 : num n 16 = num (n % 256) 8 ++ num (n / 256) 8 := by
    rw [show (16 : Nat) = 8 + 8 from rfl, num_append 8 8 n, show (2 : Int) ^ 8 = 256 by decide]
    rw [num_low n (n % 256) 8 (by rw [show (2 : Int) ^ 8 = 256 by decide]; omega)]
  have e2 : num (4294967295 - n) 16 = num (255 - n % 256) 8 ++ num (255 - n / 256) 8 := by
    rw [show (16 : Nat) = 8 + 8 from rfl, num_append 8 8 (4294967295 - n), show (2 : Int) ^ 8 = 256 by decide]
    rw [num_low (4294967295 - n) (255 - n % 256) 8 (by rw [show (2 : Int) ^ 8 = 256 by decide]; omega)]
    rw [num_low ((4294967295 - n) / 256) (255 - n / 256) 8 (by rw [show (2 : Int) ^ 8 = 256 by decide]; omega)]
  rw [e1, e2]
  have e3 : pad ([] ++ num 1 1 ++ num 0 2) = num 1 8 := by decide
  rw [e3]
  simp [bitsOf]

theorem st_bytes (b : List Int) (hb : Octets b) (h : b.length ≤ 65535) :
    bytesOf (((pad (pad ([] ++ num 1 1 ++ num 0 2) ++ num (b.length : Int) 16 ++ num (4294967295 - (b.length : Int)) 16) ++ bitsOf b).length + 7) / 8) (pad (pad ([] ++ num 1 1 ++ num 0 2) ++ num (b.length : Int) 16 ++ num (4294967295 - (b.length : Int)) 16) ++ bitsOf b) = stB b := by
  rw [head_bits _ (by omega)]
  have hp : pad (bitsOf [1, (b.length : Int) % 256, (b.length : Int) / 256, 255 - (b.length : Int) % 256, 255 - (b.length : Int) / 256]) = bitsOf [1, (b.length : Int) % 256, (b.length : Int) / 256, 255 - (b.length : Int) % 256, 255 - (b.length : Int) / 256] := by
    unfold pad
    rw [bitsOf_length]
    simp
  rw [hp, ← bitsOf_append, bitsOf_length]
  have ho : Octets (stB b) := by
    intro x hx
    rcases List.mem_append.1 hx with hx | hx
    · simp at hx
      omega
    · exact hb x hx
  have hl := stB_length b
  show bytesOf ((8 * (stB b).length + 7) / 8) (bitsOf (stB b)) = stB b
  rw [show (8 * (stB b).length + 7) / 8 = (stB b).length by omega]
  exact bytesOf_bits _ ho

theorem back {B g : Nat} {v : Value} {m : List Int} {w w1 w' : World} (W : Wr w1 B g v m) (hBg : B ≤ g) (hB : B ≤ w.heap.size) (hb : Below B w w1) (t : TurnsIn (foot g v) w1 w') : Below B w w' :=
  hb.trans (t.toBelow (Nat.le_trans hB hb.size) fun b hlt => foot_not W hBg hlt)

/-- All bits turned. -/
theorem not32 (x : Nat) (h : x < 4294967296) : bits BinOp.xor IntKind.u32 IntKind.u32.max (x : Int) = 4294967295 - (x : Int) := by
  rw [show IntKind.u32.max = ((4294967295 : Nat) : Int) by rfl, u32_xor_nat _ _ (by decide) h]
  have e : 4294967295 ^^^ x = 4294967295 - x := by
    apply Nat.eq_of_testBit_eq
    intro i
    have h1 := Nat.testBit_two_pow_sub_succ (n := 32) (x := x) (by simpa using h) i
    rw [show 2 ^ 32 - (x + 1) = 4294967295 - x by omega] at h1
    have h2 := Nat.testBit_two_pow_sub_one 32 i
    rw [show (2 ^ 32 - 1 : Nat) = 4294967295 by decide] at h2
    rw [h1, Nat.testBit_xor, h2]
    by_cases hi : i < 32
    · simp [hi]
    · have : x.testBit i = false := Nat.testBit_lt_two_pow (Nat.lt_of_lt_of_le h (by rw [show (4294967296 : Nat) = 2 ^ 32 by decide]; exact Nat.pow_le_pow_right (by omega) (by omega)))
      simp [hi, this]
  rw [e]
  omega

set_option maxRecDepth 100000 in
set_option maxHeartbeats 3200000 in
theorem stored_any (A : Option Addr) (b : List Int) (c : Nat) (w : World) (ho : Octets b) (hl : b.length ≤ 60000) (hc : b.length ≤ c) (hm : c ≤ maxLen) (hr : Holds w w.heap.size .u8 A b) :
    Calls Tryd.prog 16 #[.slice A b.length c] w (GivesRow (stB b) w) := by
  unfold maxLen at hm
  have hS := st_bytes b ho (by omega)
  have HS := Lib.hid hS
  clear hS
  have dmin : ¬ (65535 : Int) < (b.length : Int) := by omega
  go_enter Tryd.func16, Tryd.ntmps16
  go_wp2_with fail
  refine (new_wr w).mono ?_
  rintro e w1 ⟨rfl, W1, b1⟩
  have hs1 := b1.size
  go_wp2_with fail
  refine wp_loop_rounds 1 ?_
  rw [rounds_succ]
  go_wp2_with fail
  refine (begin_any w.heap.size w.heap.size true 0 (by omega) [] _ w1 W1 hs1 (by simp)).mono ?_
  rintro e w2 ⟨rfl, v2, W2, t2, n2⟩
  simp only [if_true] at W2
  have hs2 := t2.size
  have hl2 : ([] ++ num 1 1 ++ num 0 2).length = 3 := by decide
  go_wp2_with fail
  refine (align_any w.heap.size w.heap.size _ v2 w2 W2 (by omega) (by rw [hl2]; omega)).mono ?_
  rintro e w3 ⟨rfl, v3, W3, t3, n3⟩
  have hs3 := t3.size
  have hl3 : (pad ([] ++ num 1 1 ++ num 0 2)).length = 8 := by decide
  go_wp2_with fail
  refine (put_any w.heap.size w.heap.size (b.length : Int) 16 16 _ v3 w3 (by omega) (by omega) rfl W3 (by omega) (by rw [hl3]; omega)).mono ?_
  rintro e w4 ⟨rfl, v4, W4, t4, n4⟩
  have hs4 := t4.size
  have hl4 : (pad ([] ++ num 1 1 ++ num 0 2) ++ num (b.length : Int) 16).length = 24 := by rw [List.length_append, hl3, num_length]
  go_wp2_with fail
  rw [not32 _ (by omega)]
  refine (put_any w.heap.size w.heap.size (4294967295 - (b.length : Int)) 16 16 _ v4 w4 (by omega) (by omega) rfl W4 (by omega) (by rw [hl4]; omega)).mono ?_
  rintro e w5 ⟨rfl, v5, W5, t5, n5⟩
  have hs5 := t5.size
  have hl5 : (pad ([] ++ num 1 1 ++ num 0 2) ++ num (b.length : Int) 16 ++ num (4294967295 - (b.length : Int)) 16).length = 40 := by rw [List.length_append, hl4, num_length]
  have b2 := back W1 (Nat.le_refl _) (Nat.le_refl _) b1 t2
  have b3 := back W2 (Nat.le_refl _) (Nat.le_refl _) b2 t3
  have b4 := back W3 (Nat.le_refl _) (Nat.le_refl _) b3 t4
  have t15 := back W4 (Nat.le_refl _) (Nat.le_refl _) b4 t5
  have hr5 := hr.below t15
  go_wp2_with fail
  refine (raw_any w.heap.size w.heap.size A b c _ v5 w5 W5 (by omega) (Nat.le_refl _) (by rw [hl5]; omega) ho hr5 (by omega)).mono ?_
  rintro e w6 ⟨rfl, v6, W6, t6, n6⟩
  have b6 := back W5 (Nat.le_refl _) (Nat.le_refl _) t15 t6
  have hl6 : (pad (pad ([] ++ num 1 1 ++ num 0 2) ++ num (b.length : Int) 16 ++ num (4294967295 - (b.length : Int)) 16) ++ bitsOf b).length ≤ 1000000 := by rw [List.length_append, pad_length, hl5, bitsOf_length]; omega
  go_wp2_with fail
  all_goals
    refine (wbytes_any w.heap.size w.heap.size _ v6 w6 W6 hl6).mono ?_
    rintro e w7 ⟨v7, rfl, own7, b7⟩
    rw [HS.out] at own7
    go_wp2_with fail
    go_ret
    exact ⟨_, rfl, own7.mono b6.size, b6.trans (b7.mono b6.size)⟩

end Go.Proofs.YthmkeflkhocobaaDoor.Df

namespace Go.Proofs.YthmkeflkhocobaaDoor.Df
open Go.ChangeShapes Go.WideShapes Go.ChangeAt Go.RowKit Go.Proofs.YthmkeflkhocobaaDoor.Kit Go.Proofs.YthmkeflkhocobaaDoor.Bits

def Gives (v : Value) (w : World) (e : Ending) (w' : World) : Prop := e = .returned v ∧ Below w.heap.size w w'

theorem Laid.lt {g : Nat} {l : List Int} {w : World} (h : Laid g l w) (hl : 0 < l.length) : g < w.heap.size := World.block_lt_of_cell? _ _ (h 0 hl)
theorem Laid.below {g : Nat} {l : List Int} {w w' : World} (h : Laid g l w) (hl : 0 < l.length) (hb : Below w.heap.size w w') : Laid g l w' := fun k hk => (hb.cell (p := ⟨g, k, none⟩) (h.lt hl)).trans (h k hk)

theorem conv_any (w : World) (A : Option Addr) (xs : List Int) (c B : Nat) (hr : Holds w B .u8 A xs) :
    (convert 27 9 (.slice A xs.length c)).run Tryd.prog w = .ok (.string (strOfNums xs)) w :=
  conv_bytes Tryd.underlying27 Tryd.underlying5 Tryd.underlying9 w A xs c B hr

set_option maxHeartbeats 1600000 in
theorem awake_any (w : World) (hL : Laid 1 lens w) : Calls Tryd.prog 11 #[] w (Gives (.bool true) w) := by
  have g1 := length_any 13 w hL
  have e1 : trip (la 13) (lb 13) (lc 13) = .tuple #[.int .i64 266, .int .i64 1, .int .u32 0] := by
    rw [show la 13 = 266 by decide, show lb 13 = 1 by decide, show lc 13 = 0 by decide]
    rfl
  rw [e1] at g1
  have g2 := fun W => stored_any none [] 0 W (fun _ h => by simp at h) (by simp) (by simp) (by simp) Holds.nil
  rw [show stB [] = [1, 0, 0, 255, 255] by decide] at g2
  have hs : strOfNums [1, 0, 0, 255, 255] = { data := #[1, 0, 0, 255, 255] } := by decide
  have Hs := Lib.hid hs
  have G1 := Lib.hid g1
  have G2 := Lib.hid g2
  clear g1 g2 e1 hs
  go_enter Tryd.func11, Tryd.ntmps11
  go_wp2_with (first
    | (go_at_call 33; refine G1.out.mono ?_; rintro e w1 ⟨rfl, m1, rfl⟩; have hb1 := below_draws (Below.refl w.heap.size w) m1)
    | (go_at_call 16; refine (G2.out _).mono ?_; rintro e w2 ⟨v2, rfl, own2, hb2⟩; obtain ⟨A2, c2, rfl, hl2, hm2, hr2⟩ := own2.opened; have hcv := conv_any w2 A2 [1, 0, 0, 255, 255] c2 _ hr2; rw [Hs.out] at hcv; simp only [List.length_cons, List.length_nil, Nat.reduceAdd] at hcv))
  go_ret
  exact ⟨rfl, hb1.trans (hb2.mono hb1.size)⟩
end Go.Proofs.YthmkeflkhocobaaDoor.Df
