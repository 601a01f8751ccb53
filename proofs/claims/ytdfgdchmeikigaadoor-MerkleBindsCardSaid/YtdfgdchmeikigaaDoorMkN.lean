/-
  Layer 21, merkle: Way and Lead as they are called, whether sums are the same: contracts. Conditions: as each theorem names.
-/
import Derived.Test.YtdfgdchmeikigaaDoorMkI
import Derived.Test.YtdfgdchmeikigaaDoorMkJ
import Derived.Test.YtdfgdchmeikigaaDoorMkK
namespace Go.Proofs.YtdfgdchmeikigaaDoor.Mk
open Go.ChangeShapes Go.WideShapes Go.ChangeAt Go.RowKit Go.Proofs.YtdfgdchmeikigaaDoor.Kit Go.Proofs.YtdfgdchmeikigaaDoor.Sha

theorem results_cell_tmp {P : Program} {fn : Func} {p q : Tmp} {ty : TypeId} (h : fn.results = #[.cell p ty, .tmp q]) (tmps : Array Value) (w : World) (g : Nat) (t : TypeId) (cs : Array Value) (fr : Nat × Nat) (d : TypeDesc)
    (hp : tmps.getD p undef = .pointer (some ⟨g, 0, none⟩)) (hg : w.heap[g]? = some (.cells cs t fr)) (v : Value) (hq : tmps.getD q undef = v)
    (hu : P.underlying ty = some d) (hd : (match d with | .struct _ | .array _ _ => true | _ => false) = true) (hi : (P.info? ty).map (·.size) = some cs.size) :
    (results fn tmps).run P w = .ok (.tuple #[.agg cs, v]) w := by
  have hp' : tmps[p]?.getD undef = .pointer (some ⟨g, 0, none⟩) := by simpa using hp
  have hq' : tmps[q]?.getD undef = v := by simpa using hq
  simp [results, h, hp', hq', asAddr, run_loadVar_row w g t ty cs fr d hg hu hd hi]

theorem HoldsD.drewN {w : World} {B : Nat} {A : Option Addr} {l : List (List Int)} (h : HoldsD w B A l) (n : Nat) : HoldsD (w.drewN n) B A l := h
/-- What lay there stays, where a new block alone was written. -/
theorem HoldsD.out6 {w w' : World} {A : Option Addr} {l : List (List Int)} {o : Obj} (h : HoldsD w w.heap.size A l) (g : (w.alloc o).grownBy w' (some w.heap.size)) : HoldsD w' w'.heap.size A l :=
  h.on ((below_new o).trans (below_of_grown g (by simp) fun b hb => by injection hb with hb; omega))

set_option maxRecDepth 100000 in
theorem way_out (A : Option Addr) (l : List (List Int)) (c : Nat) (i : Int) (w : World) (hc : l.length ≤ c) (hm : c ≤ maxLen) (hi : i < 0 ∨ (l.length : Int) ≤ i) :
    Calls Tryd.prog 33 #[.slice A l.length c, .int .i64 i] w fun e w' => e = .returned (.tuple #[.slice none 0 0, .int .i64 5]) ∧ w = w' := by
  unfold maxLen at hm
  by_cases h0 : i < 0
  · have d0 : decide (i < 0) = true := decide_eq_true h0
    go_enter Tryd.func33, Tryd.ntmps33
    go_wp2_with fail
    go_ret2
    exact ⟨rfl, rfl⟩
  · have d0 : decide (i < 0) = false := decide_eq_false h0
    have d1 : decide ((l.length : Int) ≤ i) = true := decide_eq_true (by omega)
    go_enter Tryd.func33, Tryd.ntmps33
    go_wp2_with fail
    go_ret2
    exact ⟨rfl, rfl⟩

/-- A new row of sums, and no error. -/
def RowedD0 (e : TypeId) (l : List (List Int)) (w : World) (en : Ending) (w' : World) : Prop := ∃ v, en = .returned (.tuple #[v, .int .i64 0]) ∧ OwnD w' w.heap.size e v l ∧ Below w.heap.size w w'

set_option maxRecDepth 100000 in
theorem way_in (A : Option Addr) (l : List (List Int)) (c : Nat) (i : Nat) (w : World) (hc : l.length ≤ c) (hm : c ≤ maxLen) (hr : HoldsD w w.heap.size A l) (hsz : l.length ≤ 1000000) (hi : i < l.length) (hL : LaidS w) :
    Calls Tryd.prog 33 #[.slice A l.length c, .int .i64 i] w (RowedD0 26 (wayL l i) w) := by
  have G := Lib.hid (way_any l.length A l c i w rfl hc hm hr hsz hi hL)
  unfold maxLen at hm
  have d0 : decide ((i : Int) < 0) = false := decide_eq_false (by omega)
  have d1 : decide (l.length ≤ i) = false := decide_eq_false (by omega)
  go_enter Tryd.func33, Tryd.ntmps33
  go_wp2_with fail
  refine G.out.mono ?_
  rintro e w1 ⟨v1, rfl, own1, hb1⟩
  go_wp2_with fail
  go_ret2
  exact ⟨v1, rfl, own1, hb1⟩

/-- Hands back a sum and an error's number, in a world that has only new blocks. -/
def SumsE (xs : List Int) (n : Int) (w : World) (e : Ending) (w' : World) : Prop := e = .returned (.tuple #[arrV .u8 xs, .int .i64 n]) ∧ Below w.heap.size w w'
/-- 32 zeros. -/
def zero32 : List Int := List.replicate 32 0
theorem zero32_d : D32 zero32 := ⟨rfl, fun x hx => by unfold zero32 at hx; obtain ⟨_, rfl⟩ := List.mem_replicate.1 hx; omega⟩

theorem build_zero (W : World) : (Instr.build 26 #[]).run Tryd.prog W = .ok (arrV .u8 zero32) W := by kernel_rfl

set_option maxRecDepth 100000 in
set_option maxHeartbeats 1600000 in
theorem lead_out (A : Option Addr) (ws : List (List Int)) (c : Nat) (i n : Int) (x : List Int) (w : World) (hc : ws.length ≤ c) (hm : c ≤ maxLen) (hi : i < 0 ∨ n ≤ i) :
    Calls Tryd.prog 35 #[.agg (x.map (Value.int .u8)).toArray, .int .i64 i, .int .i64 n, .slice A ws.length c] w (SumsE zero32 5 w) := by
  unfold maxLen at hm
  have aR : ∀ o, Arr ((w.alloc o).alloc (.cells ((List.replicate 32 (0 : Int)).map (Value.int .u8)).toArray 26)) (w.heap.size + 1) 26 .u8 (List.replicate 32 0) := fun o => by
    have := Arr.new (w.alloc o) 26 .u8 (List.replicate 32 0)
    rwa [show (w.alloc o).heap.size = w.heap.size + 1 by simp] at this
  have hB := fun o p => below_two' (w := w) o p
  have Hz := Lib.hid (show zero32.length = 32 from rfl)
  have r0 := aR (.cells (x.map (Value.int .u8)).toArray 26)
  have hBz := build_zero
  generalize zero32 = ys at *
  by_cases h0 : i < 0
  · have d0 : decide (i < 0) = true := decide_eq_true h0
    go_enter Tryd.func35, Tryd.ntmps35
    go_wp2_with (first
      | (refine wpList_build_known rfl _ _ rfl (arrV .u8 ys) (fun W => by simpa using hBz W) ?_)
      | (refine wpList_store_arr rfl _ _ _ rfl (ys := ys) r0 rfl rfl (by rw [Hz.out]; rfl) (by rw [Hz.out]; kernel_rfl) ?_; intro w9 r9 g9))
    refine bodyPost_ret (v := .tuple #[arrV .u8 ys, .int .i64 5]) (results_cell_tmp rfl _ _ (w.heap.size + 1) 26 _ (0, 0) _ rfl r9 _ rfl arr32D rfl (by rw [show (ys.map (Value.int .u8)).toArray.size = 32 by simp [Hz.out]]; kernel_rfl)) rfl ⟨rfl, ?_⟩
    exact (hB _ _).trans (below_of_grown g9 (by simp; omega) fun b hb => by injection hb with hb; omega)
  · have d0 : decide (i < 0) = false := decide_eq_false h0
    have d1 : decide (n ≤ i) = true := decide_eq_true (by omega)
    go_enter Tryd.func35, Tryd.ntmps35
    go_wp2_with (first
      | (refine wpList_build_known rfl _ _ rfl (arrV .u8 ys) (fun W => by simpa using hBz W) ?_)
      | (refine wpList_store_arr rfl _ _ _ rfl (ys := ys) r0 rfl rfl (by rw [Hz.out]; rfl) (by rw [Hz.out]; kernel_rfl) ?_; intro w9 r9 g9))
    refine bodyPost_ret (v := .tuple #[arrV .u8 ys, .int .i64 5]) (results_cell_tmp rfl _ _ (w.heap.size + 1) 26 _ (0, 0) _ rfl r9 _ rfl arr32D rfl (by rw [show (ys.map (Value.int .u8)).toArray.size = 32 by simp [Hz.out]]; kernel_rfl)) rfl ⟨rfl, ?_⟩
    exact (hB _ _).trans (below_of_grown g9 (by simp; omega) fun b hb => by injection hb with hb; omega)

set_option maxRecDepth 100000 in
set_option maxHeartbeats 1600000 in
theorem lead_form (A : Option Addr) (ws : List (List Int)) (c : Nat) (i n : Nat) (x : List Int) (w : World) (hc : ws.length ≤ c) (hm : c ≤ maxLen) (hi : i < n) (hn : n ≤ 9223372036854775807) (hw : ws.length ≠ stepsN i n) :
    Calls Tryd.prog 35 #[.agg (x.map (Value.int .u8)).toArray, .int .i64 i, .int .i64 n, .slice A ws.length c] w (SumsE zero32 3 w) := by
  unfold maxLen at hm
  have aR : ∀ o, Arr ((w.alloc o).alloc (.cells ((List.replicate 32 (0 : Int)).map (Value.int .u8)).toArray 26)) (w.heap.size + 1) 26 .u8 (List.replicate 32 0) := fun o => by
    have := Arr.new (w.alloc o) 26 .u8 (List.replicate 32 0)
    rwa [show (w.alloc o).heap.size = w.heap.size + 1 by simp] at this
  have hB := fun o p => below_two' (w := w) o p
  have Hz := Lib.hid (show zero32.length = 32 from rfl)
  have r0 := aR (.cells (x.map (Value.int .u8)).toArray 26)
  have hBz := build_zero
  generalize zero32 = ys at *
  have GS := Lib.hid (fun W => steps_any i n W (by omega))
  have e : stepsZ i n = stepsN i n := by unfold stepsZ; rw [if_neg (by omega), Int.toNat_natCast, Int.toNat_natCast]
  rw [e] at GS
  generalize stepsN i n = s at *
  have d0 : decide ((i : Int) < 0) = false := decide_eq_false (by omega)
  have d1 : decide (n ≤ i) = false := decide_eq_false (by omega)
  have d2 : ((ws.length : Int) != (s : Int)) = true := by rw [bne_iff_ne]; omega
  have d3 : (ws.length != s) = true := by rw [bne_iff_ne]; omega
  have d4 : (ws.length == s) = false := by rw [beq_eq_false_iff_ne]; omega
  clear e hw
  go_enter Tryd.func35, Tryd.ntmps35
  go_wp2_with (first
    | (go_at_call 34; refine (GS.out _).mono ?_; rintro e w1 ⟨rfl, rfl⟩)
    | (refine wpList_build_known rfl _ _ rfl (arrV .u8 ys) (fun W => by simpa using hBz W) ?_)
    | (refine wpList_store_arr rfl _ _ _ rfl (ys := ys) r0 rfl rfl (by rw [Hz.out]; rfl) (by rw [Hz.out]; kernel_rfl) ?_; intro w9 r9 g9))
  refine bodyPost_ret (v := .tuple #[arrV .u8 ys, .int .i64 3]) (results_cell_tmp rfl _ _ (w.heap.size + 1) 26 _ (0, 0) _ rfl r9 _ rfl arr32D rfl (by rw [show (ys.map (Value.int .u8)).toArray.size = 32 by simp [Hz.out]]; kernel_rfl)) rfl ⟨rfl, ?_⟩
  exact (hB _ _).trans (below_of_grown g9 (by simp; omega) fun b hb => by injection hb with hb; omega)

set_option maxRecDepth 100000 in
set_option maxHeartbeats 1600000 in
theorem lead_in (A : Option Addr) (ws : List (List Int)) (c : Nat) (i n : Nat) (x : List Int) (w : World) (hc : ws.length ≤ c) (hm : c ≤ maxLen) (hr : HoldsD w w.heap.size A ws) (hx : D32 x) (hi : i < n) (hn : n ≤ 9223372036854775807) (hw : ws.length = stepsN i n) (hL : LaidS w) :
    Calls Tryd.prog 35 #[.agg (x.map (Value.int .u8)).toArray, .int .i64 i, .int .i64 n, .slice A ws.length c] w (SumsE (leadL x i n ws) 0 w) := by
  have GL := Lib.hid (fun W (hB : Below w.heap.size w W) => lead_any n A ws c i x W hn hw hc hm (hr.on hB) hx hi (hL.below hB))
  have hall := hr.all
  have hsl := Lib.hid (leadL_d32 n i x ws hx hall).1
  have hxl := Lib.hid hx.1
  generalize leadL x i n ws = ys at *
  unfold maxLen at hm
  have aX : ∀ o, Arr ((w.alloc (.cells (x.map (Value.int .u8)).toArray 26)).alloc o) w.heap.size 26 .u8 x := fun o => (Arr.new w _ .u8 x).alloc o
  have aR : ∀ o, Arr ((w.alloc o).alloc (.cells ((List.replicate 32 (0 : Int)).map (Value.int .u8)).toArray 26)) (w.heap.size + 1) 26 .u8 (List.replicate 32 0) := fun o => by
    have := Arr.new (w.alloc o) 26 .u8 (List.replicate 32 0)
    rwa [show (w.alloc o).heap.size = w.heap.size + 1 by simp] at this
  have hB := fun o p => below_two' (w := w) o p
  have r0 := aR (.cells (x.map (Value.int .u8)).toArray 26)
  have GS := Lib.hid (fun W => steps_any i n W (by omega))
  have e : stepsZ i n = stepsN i n := by unfold stepsZ; rw [if_neg (by omega), Int.toNat_natCast, Int.toNat_natCast]
  rw [e, ← hw] at GS
  have d0 : decide ((i : Int) < 0) = false := decide_eq_false (by omega)
  have d1 : decide (n ≤ i) = false := decide_eq_false (by omega)
  clear e hw hx hr hall
  go_enter Tryd.func35, Tryd.ntmps35
  go_wp2_with (first
    | (go_at_call 34; refine (GS.out _).mono ?_; rintro e w1 ⟨rfl, rfl⟩)
    | (refine wpList_load_arr rfl _ _ rfl (aX _) rfl arr32D rfl (by rw [hxl.out]; kernel_rfl) ?_))
  refine (GL.out _ (hB _ _)).mono ?_
  rintro e w5 ⟨rfl, hb5⟩
  have r5 : Arr w5 (w.heap.size + 1) 26 .u8 (List.replicate 32 0) := Block.below r0 hb5 (by simp)
  have b5 := (hB _ _).trans (hb5.mono (by simp; omega))
  clear hb5 r0 hB
  go_wp2_with (have _t := r5; refine wpList_store_arr rfl _ _ _ rfl (ys := ys) r5 rfl rfl (by rw [hsl.out]; rfl) (by rw [hsl.out]; kernel_rfl) ?_; intro w9 r9 g9)
  refine bodyPost_ret (v := .tuple #[arrV .u8 ys, .int .i64 0]) (results_cell_tmp rfl _ _ (w.heap.size + 1) 26 _ (0, 0) _ rfl r9 _ rfl arr32D rfl (by rw [show (ys.map (Value.int .u8)).toArray.size = 32 by simp [hsl.out]]; kernel_rfl)) rfl ⟨rfl, ?_⟩
  exact b5.trans (below_of_grown g9 b5.size fun b hb => by injection hb with hb; omega)

set_option maxRecDepth 100000 in
set_option maxHeartbeats 1600000 in
theorem same_yes (A B : Option Addr) (l : List (List Int)) (c d : Nat) (w : World) (hc : l.length ≤ c) (hm : c ≤ maxLen) (hr : HoldsD w w.heap.size A l) (hd : l.length ≤ d) (hn : d ≤ maxLen) (hs : HoldsD w w.heap.size B l) :
    Calls Tryd.prog 36 #[.slice A l.length c, .slice B l.length d] w fun e w' => e = .returned (.bool true) ∧ Below w.heap.size w w' := by
  unfold maxLen at hm hn
  have n1 : ((l.length : Int) != (l.length : Int)) = false := by simp
  go_enter Tryd.func36, Tryd.ntmps36
  go_wp2_with fail
  go_loopw [5] (fun s wr => ∃ i : Nat, i ≤ l.length ∧ s = .int .i64 i ∧ Below w.heap.size w wr) (fun s _ => l.length - (intOf s).toNat)
  case atStart => exact ⟨0, by omega, rfl, Below.refl _ _⟩
  case round =>
    obtain ⟨i, hi, rfl, hb⟩ := hrel
    by_cases hlt : i < l.length
    · obtain ⟨b, off, rfl, hbl, r0, q0⟩ := (hr.below hb).at_ hlt
      obtain ⟨b', off', rfl, hbl', r1, _⟩ := (hs.below hb).at_ hlt
      have e3 : ∀ W, (binOp .neq 26 (.agg (dcells l[i]).toArray) (.agg (dcells l[i]).toArray)).run Tryd.prog W = .ok (.bool false) W := fun W => dig_neq l[i] q0 W
      have f3 : ∀ W x y, (eqGuard .neq 26 x y (.agg (dcells l[i]).toArray) (.agg (dcells l[i]).toArray)).run Tryd.prog W = .ok () W := fun W x y => dig_guardn l[i] x y W
      have n0 := Lib.hid q0.1
      generalize l[i] = x0 at *
      clear q0
      have i0 : (i : Int) < (l.length : Int) := by omega
      go_wp2_with fail
      refine wp_region_quiet_below (by kernel_rfl) (by kernel_rfl) ?_
      go_big_quiet_step (fail)
      go_big_quiet_step (fail)
      go_big_quiet_step (fail)
      refine wpQuiet_step (fun K hK => ?_)
      refine quiet_load_row (by rfl) 26 _ (by rfl) b (off + i * 32) (by rfl) (dcells x0) _ (range_regrown r0) arr32D (by rfl) (by unfold dcells; rw [List.length_map, n0.out]; kernel_rfl) ?_
      go_simp
      refine hK _ ?_
      clear hK K
      go_big_quiet_step (fail)
      go_big_quiet_step (fail)
      go_big_quiet_step (fail)
      refine wpQuiet_step (fun K hK => ?_)
      refine quiet_load_row (by rfl) 24 _ (by rfl) b' (off' + i * 32) (by rfl) (dcells x0) _ (range_regrown r1) arr32A (by rfl) (by unfold dcells; rw [List.length_map, n0.out]; kernel_rfl) ?_
      go_simp
      refine hK _ ?_
      clear hK K
      repeat (go_big_quiet_step (fail))
      refine wpQuiet_nil ?_
      intro _ hw'
      obtain ⟨⟨dq, osq⟩, hw''⟩ := hw'
      have hbq := below_regrown wr dq osq
      subst hw''
      go_wp2_with fail
      go_roundw
      case rel => exact ⟨i + 1, by omega, by go_num, hb.trans (hbq.mono hb.size)⟩
      case measure => simp [intOf] <;> omega
    · obtain rfl : i = l.length := by omega
      go_wp2_with fail
      go_ret
      exact ⟨rfl, hb⟩

/-- What 'Lead' answers, in each of its three ways. -/
theorem lead_case (x : List Int) (i n : Int) (ws : List (List Int)) (w : World) (hx : D32 x) (hn : n ≤ 9223372036854775807) (hL : LaidS w) : ∃ (Y : List Int) (E : Int), Y.length = 32 ∧
    (∀ W A' c', Below w.heap.size w W → ws.length ≤ c' → c' ≤ maxLen → HoldsD W W.heap.size A' ws → Calls Tryd.prog 35 #[.agg (dcells x).toArray, .int .i64 i, .int .i64 n, .slice A' ws.length c'] W (SumsE Y E W)) ∧
    (((i < 0 ∨ n ≤ i) ∧ Y = zero32 ∧ E = 5) ∨ ∃ I N : Nat, i = I ∧ n = N ∧ I < N ∧ ((ws.length ≠ stepsN I N ∧ Y = zero32 ∧ E = 3) ∨ (ws.length = stepsN I N ∧ Y = leadL x I N ws ∧ E = 0 ∧ ∀ d ∈ ws, True))) := by
  by_cases hi : i < 0 ∨ n ≤ i
  · exact ⟨zero32, 5, rfl, fun W A' c' _ h1 h2 _ => lead_out A' ws c' i n x W h1 h2 hi, .inl ⟨hi, rfl, rfl⟩⟩
  · obtain ⟨I, rfl⟩ := Int.eq_ofNat_of_zero_le (show 0 ≤ i by omega)
    obtain ⟨N, rfl⟩ := Int.eq_ofNat_of_zero_le (show 0 ≤ n by omega)
    by_cases hw : ws.length = stepsN I N
    · exact ⟨leadL x I N ws, 0, (leadR_d32 N I x _ hx).1, fun W A' c' hB h1 h2 h3 => lead_in A' ws c' I N x W h1 h2 h3 hx (by omega) (by omega) hw (hL.below hB), .inr ⟨I, N, rfl, rfl, by omega, .inr ⟨hw, rfl, rfl, fun _ _ => trivial⟩⟩⟩
    · exact ⟨zero32, 3, rfl, fun W A' c' _ h1 h2 _ => lead_form A' ws c' I N x W h1 h2 (by omega) (by omega) hw, .inr ⟨I, N, rfl, rfl, by omega, .inl ⟨hw, rfl, rfl⟩⟩⟩
end Go.Proofs.YtdfgdchmeikigaaDoor.Mk
