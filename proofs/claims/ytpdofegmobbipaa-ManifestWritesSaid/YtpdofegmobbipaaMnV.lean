/-
  Layer 22, manifest: what bytes tell, plain; a number and a sum that are read: contracts. Conditions: as each theorem names.
-/
import Derived.Test.YtpdofegmobbipaaMnT
import Derived.Test.YtpdofegmobbipaaMnU
import Derived.Laws.CopyOwn
import Derived.Deep.Cut
namespace Go.Proofs.Ytpdofegmobbipaa.Mn
open Go.ChangeShapes Go.WideShapes Go.ChangeAt Go.RowKit Go.Proofs.Ytpdofegmobbipaa.Kit Go.Proofs.Ytpdofegmobbipaa.Oct

/-- copy into a block's middle. -/
theorem wpList_copy_mid {P : Program} {w : World} {ops : Array Oper} {rest : List Oper} {o : Oper} {a : Act} {Q : Exit → Act → World → Prop} (hgd : o.guard = none) (d s : Operand) (t : TypeId)
    (ho : o.op = .call { callee := .builtin .copy, args := #[d, s], argTypes := #[t, t] }) {e : TypeId} {k : IntKind} {bytes : Nat} (he : IntElem P t e k bytes)
    {g off dLen dCap : Nat} (hd : a.eval d = .slice (some ⟨g, off, none⟩) dLen dCap) {B : Nat} {A : Option Addr} {ys : List Int} {c : Nat} (hs : a.eval s = .slice A ys.length c) (hr : Holds w B k A ys)
    {tg : TypeId} {cur : List Value} (hg : Block w g tg cur.toArray) (hfit : off + dLen ≤ cur.length)
    (h : ∀ w', Block w' g tg (cur.take off ++ ((ys.take dLen).map (Value.int k) ++ cur.drop (off + (ys.take dLen).length))).toArray → w.grownBy w' (some g) → wpList P ops Q rest (a.put o.dst (goInt (ys.take dLen).length)) w') :
    wpList P ops Q (o :: rest) a w := by
  obtain ⟨ht, hinfo, hb8⟩ := he
  obtain ⟨i, hi, hz, hsi, hby⟩ := info_parts hinfo
  have hsz : (P.info? e).map (·.size) = some 1 := by rw [hi]; simp [hsi]
  have hmin : (ys.take dLen).length = Nat.min ys.length dLen := by rw [List.length_take]; exact Nat.min_comm _ _
  rcases Nat.eq_zero_or_pos (Nat.min ys.length dLen) with h0 | h0
  · have e0 : ys.take dLen = [] := List.eq_nil_of_length_eq_zero (by omega)
    refine wpList_copy_nothing hgd d s t t ho e ht hsz _ _ _ _ _ _ hd hs h0 ?_
    have := h w (by rw [e0]; simpa using hg) (World.grownBy.refl w _)
    rw [e0] at this
    exact this
  · have hyl : 0 < ys.length := by rw [← hmin, List.length_take] at h0; omega
    obtain ⟨b, o2, rfl, hb, hc⟩ := hr hyl
    refine wpList_copy_own hgd d s t t ho e ht hsz g off dLen dCap ⟨b, o2, none⟩ ys.length c hd hs cur.toArray tg hg ((ys.take dLen).map (Value.int k)) (by rw [List.length_map, hmin]) ?_ (by simp; omega) (ints_one k _) ?_
    · intro j u hu
      obtain ⟨hj, rfl⟩ := get_ints hu
      rw [List.length_take] at hj
      rw [add_plain, hc j (by omega)]
      simp [List.getD, show j < dLen by omega]
    · have hh := h (w.setRow g (cur.take off ++ ((ys.take dLen).map (Value.int k) ++ cur.drop (off + (ys.take dLen).length))).toArray) (setRow_heap w g _ _ tg _ hg)
        ⟨rfl, rfl, rfl, by simp [World.setRow], fun j _ hj => setRow_other w g j _ (fun e => hj (by rw [e]))⟩
      simpa using hh

/-- wpList_store_arr, said of a store alone: no other operation is tried. -/
theorem wpList_store_arrS {P : Program} {w : World} {ops : Array Oper} {rest : List Oper} {a : Act} {Q : Exit → Act → World → Prop} {ty tt : TypeId} {x y : Operand} {ps : String} {af : Array Edge}
    {g : Nat} {t : TypeId} {k : IntKind} {xs ys : List Int} (h : Arr w g t k xs) (hx : a.eval x = .pointer (some ⟨g, 0, none⟩)) (hy : a.eval y = arrV k ys) (hl : ys.length = xs.length) (hi : (P.info? ty).map (·.size) = some ys.length)
    (hK : ∀ w', Arr w' g t k ys → w.grownBy w' (some g) → wpList P ops Q rest (a.put none undef) w') : wpList P ops Q (⟨none, .store ty x y, tt, ps, af, none⟩ :: rest) a w :=
  wpList_store_arr rfl ty x y rfl h hx hy hl hi hK
theorem wpList_load_arrS {P : Program} {w : World} {ops : Array Oper} {rest : List Oper} {a : Act} {Q : Exit → Act → World → Prop} {ty tt : TypeId} {x : Operand} {dst : Option Tmp} {ps : String} {af : Array Edge}
    {g : Nat} {t : TypeId} {k : IntKind} {xs : List Int} (h : Arr w g t k xs) (hx : a.eval x = .pointer (some ⟨g, 0, none⟩)) {d : TypeDesc} (hu : P.underlying ty = some d) (hd : d.isRow = true) (hi : (P.info? ty).map (·.size) = some xs.length)
    (hK : wpList P ops Q rest (a.put dst (arrV k xs)) w) : wpList P ops Q (⟨dst, .load ty x, tt, ps, af, none⟩ :: rest) a w :=
  wpList_load_arr rfl ty x rfl h hx hu hd hi hK

def numA (xs : List Int) (p m : Nat) : Int := val ((xs.drop p).take m)
theorem numA_eight (xs : List Int) (p : Nat) (ho : Octets xs) (h : p + 8 ≤ xs.length) : 0 ≤ numA xs p 8 ∧ numA xs p 8 < 18446744073709551616 := val_lt8 (xs.drop p) (ho.tail p) 8 (by simp; omega) (by omega)
theorem numA_lt (xs : List Int) (p m : Nat) (ho : Octets xs) (h : p + m ≤ xs.length) : 0 ≤ numA xs p m ∧ numA xs p m < (256 : Int) ^ m := val_bd (xs.drop p) (ho.tail p) m (by simp; omega)
theorem numA_four (xs : List Int) (p : Nat) (ho : Octets xs) (h : p + 4 ≤ xs.length) : 0 ≤ numA xs p 4 ∧ numA xs p 4 < 4294967296 := numA_lt xs p 4 ho h
theorem numA_two (xs : List Int) (p : Nat) (ho : Octets xs) (h : p + 2 ≤ xs.length) : 0 ≤ numA xs p 2 ∧ numA xs p 2 < 65536 := numA_lt xs p 2 ho h

/-- The first n numbers of an order, from byte 118 on. -/
def ordN (xs : List Int) (n : Nat) : List Int := (List.range n).map fun j => numA xs (118 + 2 * j) 2
theorem ordN_length (xs : List Int) (n : Nat) : (ordN xs n).length = n := by simp [ordN]
theorem ordN_snoc (xs : List Int) (n : Nat) : ordN xs (n + 1) = ordN xs n ++ [numA xs (118 + 2 * n) 2] := by simp [ordN, List.range_succ]
/-- So many pairs stand behind the front. -/
def pairs (xs : List Int) : Nat := (xs.length - 118) / 2
/-- The manifest of bytes that are long enough, with so many numbers of an order. -/
def manN (xs : List Int) (n : Nat) (A : Option Addr) (cap : Nat) : Man :=
  ⟨xs.getD 1 0, numA xs 2 8, numA xs 10 4, numA xs 14 4, numA xs 18 4, (xs.drop 22).take 32, (xs.drop 54).take 32, (xs.drop 86).take 32, A, cap, ordN xs n⟩
def man0 : Man := ⟨0, 0, 0, 0, 0, zero32, zero32, zero32, none, 0, []⟩
theorem getD_at (xs : List Int) (ho : Octets xs) (p : Nat) : 0 ≤ xs.getD p 0 ∧ xs.getD p 0 ≤ 255 := by have := ho.at_ p; simpa [List.getD] using this
theorem ordN_bd (xs : List Int) (n : Nat) (ho : Octets xs) (h : 118 + 2 * n ≤ xs.length) : ∀ z ∈ ordN xs n, 0 ≤ z ∧ z < 65536 := by
  intro z hz
  unfold ordN at hz
  obtain ⟨j, hj, rfl⟩ := List.mem_map.1 hz
  have := List.mem_range.1 hj
  exact numA_two xs _ ho (by omega)
theorem manN_ok (xs : List Int) (n : Nat) (A : Option Addr) (cap : Nat) (ho : Octets xs) (h : 118 ≤ xs.length) (hn : 118 + 2 * n ≤ xs.length) (hc : n ≤ cap ∧ cap ≤ maxLen) : (manN xs n A cap).Ok := by
  have n4 := fun (p : Nat) (hp : p + 4 ≤ 118) => numA_four xs p ho (by omega)
  have tk : ∀ p, p + 32 ≤ 118 → ((xs.drop p).take 32).length = 32 := fun p hp => by rw [List.length_take, List.length_drop]; omega
  exact ⟨getD_at xs ho 1, numA_eight xs 2 ho (by omega), by have := n4 10 (by decide); show _ ≤ numA xs 10 4 ∧ numA xs 10 4 ≤ _; omega, by have := n4 14 (by decide); show _ ≤ numA xs 14 4 ∧ numA xs 14 4 ≤ _; omega, by have := n4 18 (by decide); show _ ≤ numA xs 18 4 ∧ numA xs 18 4 ≤ _; omega,
    tk 22 (by decide), tk 54 (by decide), tk 86 (by decide), (ho.tail 22).head 32, (ho.tail 54).head 32, (ho.tail 86).head 32, fun z hz => by have := ordN_bd xs n ho hn z hz; omega, by show (ordN xs n).length ≤ cap ∧ cap ≤ maxLen; rw [ordN_length]; exact hc⟩
theorem man0_ok : man0.Ok := ⟨by decide, by decide, by decide, by decide, by decide, by decide, by decide, by decide, zero_octets, zero_octets, zero_octets, (fun _ h => by cases h), ⟨Nat.le_refl _, Nat.zero_le _⟩⟩

theorem number_any (A : Option Addr) (xs : List Int) (c p m : Nat) (w : World) (hn : xs.length ≤ 1000000) (hl : xs.length ≤ c) (hm : 1 ≤ m ∧ m ≤ 8) (h : p + m ≤ xs.length) (ho : Octets xs) (hr : Holds w w.heap.size .u8 A xs) :
    Calls Try.prog 33 #[.slice A xs.length c, .int .i64 p, .int .i64 m] w fun e w' => e = .returned (.int .u64 (numA xs p m)) ∧ w = w' := by
  have G := Lib.hid (get_any A xs c p m w.heap.size w hn hl hm h ho hr)
  unfold numA
  generalize val ((xs.drop p).take m) = V at *
  go_enter Try.func33, Try.ntmps33
  go_wp2_with (go_at_call 38; (with_reducible refine G.out.mono ?_); rintro e w1 ⟨rfl, rfl⟩)
  go_ret
  exact ⟨rfl, rfl⟩

set_option maxRecDepth 100000 in
set_option maxHeartbeats 3200000 in
theorem digest_any (b off : Nat) (xs : List Int) (n c : Nat) (w : World) (hn : n = xs.length) (h32 : 32 ≤ n) (hc : n ≤ c) (hm : n ≤ 1000000) (hr : Holds w w.heap.size .u8 (some ⟨b, off, none⟩) xs) :
    Calls Try.prog 34 #[.slice (some ⟨b, off, none⟩) n c] w fun e w' => e = .returned (arrV .u8 (xs.take 32)) ∧ Below w.heap.size w w' := by
  subst hn
  have Z2 := (Arr.new w 24 .u8 (List.replicate 32 0)).alloc (.cells ((List.replicate 32 (0 : Int)).map (Value.int .u8)).toArray 24)
  have D3 : Block ((w.alloc (.cells ((List.replicate 32 (0 : Int)).map (Value.int .u8)).toArray 24)).alloc (.cells ((List.replicate 32 (0 : Int)).map (Value.int .u8)).toArray 24)) (w.heap.size + 1) 24 ((List.replicate 32 (0 : Int)).map (Value.int .u8)).toArray := by
    have := Block.new (w.alloc (.cells ((List.replicate 32 (0 : Int)).map (Value.int .u8)).toArray 24)) 24 ((List.replicate 32 (0 : Int)).map (Value.int .u8)).toArray
    rwa [show (w.alloc (.cells ((List.replicate 32 (0 : Int)).map (Value.int .u8)).toArray 24)).heap.size = w.heap.size + 1 by simp] at this
  have B3 : Below w.heap.size w ((w.alloc (.cells ((List.replicate 32 (0 : Int)).map (Value.int .u8)).toArray 24)).alloc (.cells ((List.replicate 32 (0 : Int)).map (Value.int .u8)).toArray 24)) := ((Below.refl _ _).alloc (Nat.le_refl _) _).alloc (by simp) _
  have hr3 := Lib.hid (hr.below B3)
  have HB3 := Lib.hid B3
  have hys : (xs.take 32).map (Value.int .u8) ++ ((List.replicate 32 (0 : Int)).map (Value.int .u8)).drop (0 + (xs.take 32).length) = (xs.take 32).map (Value.int .u8) := by
    rw [List.drop_of_length_le (by simp; omega), List.append_nil]
  have hyl : Hid ((xs.take 32).length = 32) := Lib.hid (by rw [List.length_take]; omega)
  have HYS := Lib.hid hys
  have HZ2 := Lib.hid Z2
  have HD3 := Lib.hid D3
  clear hr B3 hys Z2 D3
  go_enter Try.func34, Try.ntmps34
  go_upto_region 2 with fail
  obtain ⟨w3, hw3⟩ : ∃ w3, (w.alloc (.cells ((List.replicate 32 (0 : Int)).map (Value.int .u8)).toArray 24)).alloc (.cells ((List.replicate 32 (0 : Int)).map (Value.int .u8)).toArray 24) = w3 := ⟨_, rfl⟩
  rw [hw3] at HZ2 HD3 HB3 hr3
  generalize hW : (w.alloc _).alloc _ = w4
  obtain rfl : w3 = w4 := by rw [← hw3, ← hW]; rfl
  clear hW hw3
  generalize hY : xs.take 32 = ys at *
  go_wp2_with (first
    | (have _t := HD3; clear _t; refine wpList_copy_mid (o := ⟨some 6, _, _, _, _, _⟩) rfl _ _ _ rfl elem8 (A := some ⟨b, off, none⟩) (ys := xs) (c := c) rfl rfl hr3.out HD3.out (by simp) ?_; intro w5 D5 g5; rw [hY, List.take_zero, List.nil_append, HYS.out] at D5; have Z5 := Arr.grown HZ2.out g5 (by intro e; injection e with e; omega); have B5 := HB3.out.trans (below_of_grown g5 HB3.out.size fun b hb => by injection hb with hb; omega); clear HZ2 HD3 g5)
    | (have _t := D5; refine wpList_load_arrS (show Arr w5 (w.heap.size + 1) 24 .u8 ys from D5) (by rfl) Try.underlying24 (by rfl) (by rw [hyl.out]; kernel_rfl) ?_; clear _t D5; generalize hV : arrV .u8 ys = V)
    | (have _t := Z5; refine wpList_store_arrS (ys := ys) (by exact Z5) (by rfl) (by rw [hV]; rfl) (by rw [hyl.out]; rfl) (by rw [hyl.out]; kernel_rfl) ?_; intro w6 D6 g6))
  try simp only [Act.put]
  refine bodyPost_ret (v := arrV .u8 ys) (results_cell_row rfl _ _ w.heap.size 24 _ (0, 0) _ rfl D6 Try.underlying24 rfl (by rw [show (ys.map (Value.int .u8)).toArray.size = 32 by simp [hyl.out]]; kernel_rfl)) rfl ⟨by rw [hY], ?_⟩
  exact B5.trans (below_of_grown g6 B5.size fun b hb => by injection hb with hb; omega)
end Go.Proofs.Ytpdofegmobbipaa.Mn
