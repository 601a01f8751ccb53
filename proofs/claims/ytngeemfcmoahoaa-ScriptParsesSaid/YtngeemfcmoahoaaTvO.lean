/-
  Layer 30, a line, as the document reads it: a contract. Conditions: as each theorem names.
-/
import Derived.Test.YtngeemfcmoahoaaTvN
namespace Go.Proofs.Ytngeemfcmoahoaa.Tv
open Go.ChangeShapes Go.WideShapes Go.ChangeAt Go.RowKit Go.Proofs.Ytngeemfcmoahoaa.Kit Go.Proofs.Ytngeemfcmoahoaa.Tx Go.Proofs.Ytngeemfcmoahoaa.Ty Go.Proofs.Ytngeemfcmoahoaa.Tz

/-- The rows of what was read by now. -/
structure SRows (w : World) (B : Nat) (p : PS) (vs vi va : Value) (es : List (ActV × Value)) : Prop where
  os : Own w B 5 .u8 vs p.sd
  oi : Own w B 5 .u8 vi p.im
  oa : OwnE w B va es
  al : es.map Prod.fst = p.al
  ds : ∀ x ∈ es, Own w B 5 .u8 x.2 x.1.d
theorem SRows.out {S : Nat → Prop} {w w' : World} {B : Nat} {p : PS} {vs vi va : Value} {es : List (ActV × Value)} (h : SRows w B p vs vi va es) (t : TurnsIn S w w') (hS : ∀ x, S x → x < B ∨ w.heap.size ≤ x) : SRows w' B p vs vi va es :=
  ⟨h.os.out t (fun x hx hs => by have := h.os.lt x hx; have := hS x hs; omega), h.oi.out t (fun x hx hs => by have := h.oi.lt x hx; have := hS x hs; omega), h.oa.out t (fun x hx hs => by have := h.oa.lt x hx; have := hS x hs; omega), h.al, fun y hy => (h.ds y hy).out t (fun x hx hs => by have := (h.ds y hy).lt x hx; have := hS x hs; omega)⟩
theorem SRows.far {w w' : World} {B q : Nat} {T : TypeId} {cs : Array Value} {p : PS} {vs vi va : Value} {es : List (ActV × Value)} (h : SRows w B p vs vi va es) (hq : Block w q T cs) (t : TurnsIn (fun b => b = q) w w') (hT : T ≠ 40 ∧ T ≠ 5 := by decide) : SRows w' B p vs vi va es :=
  ⟨h.os.out t (fun x hx e => h.os.ne_block hq (Ne.symm hT.2) (by rw [hx, e])), h.oi.out t (fun x hx e => h.oi.ne_block hq (Ne.symm hT.2) (by rw [hx, e])), h.oa.out t (fun x hx e => h.oa.ne_block hq (Ne.symm hT.1) (by rw [hx, e])), h.al, fun y hy => (h.ds y hy).out t (fun x hx e => (h.ds y hy).ne_block hq (Ne.symm hT.2) (by rw [hx, e]))⟩
theorem SRows.add {w5 w6 : World} {B : Nat} {p : PS} {vs vi va v6 u : Value} {es : List (ActV × Value)} {a : ActV} (h : SRows w5 B p vs vi va es) (ou : Own w5 B 5 .u8 u a.d) (t6 : TurnsIn (fun b => va.ownBlock = some b) w5 w6) (O6 : OwnE w6 B v6 (es ++ [(a, u)])) :
    SRows w6 B { p with al := p.al ++ [a] } vs vi v6 (es ++ [(a, u)]) := by
  have keep : ∀ (o : Value) (xs : List Int), Own w5 B 5 .u8 o xs → Own w6 B 5 .u8 o xs := fun o xs ho => ho.out t6 (fun x hx he => by
      obtain ⟨cs, hc⟩ := own_block ho hx
      obtain ⟨ds, hd⟩ := h.oa.block he
      exact absurd (block_type hc hd) (by decide))
  refine ⟨keep _ _ h.os, keep _ _ h.oi, O6, ?_, fun x hx => ?_⟩
  · rw [List.map_append, h.al]; rfl
  · rcases List.mem_append.1 hx with hx | hx
    · exact keep _ _ (h.ds x hx)
    · obtain rfl : x = (a, u) := by simpa using hx
      exact keep _ _ ou
theorem wpList_append_act {w : World} {B : Nat} {v : Value} {es : List (ActV × Value)} {ops : Array Oper} {rest : List Oper} {o : Oper} {a : Act} {Q : Exit → Act → World → Prop} (hgd : o.guard = none) (s x : Operand)
    (ho : o.op = Op.call { callee := Callee.builtin Builtin.append, args := #[s, x], argTypes := #[31, 31] })
    (q : ActV) (A : Option Addr) (n m : Nat) (hown : OwnE w B v es) (hs : a.eval s = v) {c : Nat} (hx : a.eval x = .slice (some ⟨w.heap.size, 0, none⟩) 1 c) (hsz : es.length ≤ 1000000) (hbase : B ≤ w.heap.size)
    (hK : ∀ A' c' w', OwnE w' B (.slice A' (es.length + 1) c') (es ++ [(q, .slice A n m)]) → TurnsIn (fun b => v.ownBlock = some b) w w' → wpList Try.prog ops Q rest (a.put o.dst (.slice A' (es.length + 1) c')) w') :
    wpList Try.prog ops Q (o :: rest) a (w.alloc (.cells #[.int .u8 q.k, .int .u8 q.m, .int .i64 q.p, .int .i64 q.n, .int .u64 q.v, .slice A n m] 40)) := by
  refine wpList_plain hgd fun K hK2 => ?_
  obtain ⟨A', c', w', hrun, h2, h3, _⟩ := run_append_act hown q A n m c hsz hbase o.type
  have hrun' : (Builtin.append_ #[31, 31] o.type #[v, .slice (some ⟨w.heap.size, 0, none⟩) 1 c]).run Try.prog (w.alloc (.cells #[.int .u8 q.k, .int .u8 q.m, .int .i64 q.p, .int .i64 q.n, .int .u64 q.v, .slice A n m] 40)) = .ok (.slice A' (es.length + 1) c') w' := hrun
  unfold Oper.wp
  simp only [execOp, ho, resolve, invoke, builtin, Sem.run_bind, Sem.run_pure, Result.andThen_ok, List.map_toArray, List.map_cons, List.map_nil, hs, hx, hrun']
  exact hK2 _ _ (hK _ _ _ h2 h3)
def OneQ (B : Nat) (p : PS) (vs vi va : Value) (ln e0 : Int) (t : List Int) (w : World) (e : Ending) (w' : World) : Prop :=
  TurnsIn (fun x => va.ownBlock = some x) w w' ∧ match lineL p t with
  | .error k => ∃ As ns cs Ai ni ci Aa na ca, e = .returned (.agg (sC p (.slice As ns cs) (.slice Ai ni ci) (.slice Aa na ca) (ln + 1) k).toArray)
  | .ok q => ∃ As ns cs Ai ni ci Aa na ca es, e = .returned (.agg (sC q (.slice As ns cs) (.slice Ai ni ci) (.slice Aa na ca) (ln + 1) e0).toArray) ∧ SRows w' B q (.slice As ns cs) (.slice Ai ni ci) (.slice Aa na ca) es

set_option maxRecDepth 100000 in
set_option maxHeartbeats 12800000 in
theorem rone_any (B : Nat) (p : PS) (As Ai Aa : Option Addr) (ns cs ni ci na ca : Nat) (es : List (ActV × Value)) (ln e0 : Int) (s : ByteArray) (w : World) (hs : s.size ≤ 100000) (hln : 0 ≤ ln ∧ ln ≤ 1000000) (hes : es.length ≤ 1000000) (hB : B ≤ w.heap.size) (hR : SRows w B p (.slice As ns cs) (.slice Ai ni ci) (.slice Aa na ca) es) :
    Calls Try.prog 21 #[.agg (sC p (.slice As ns cs) (.slice Ai ni ci) (.slice Aa na ca) ln e0).toArray, .string s] w (OneQ B p (.slice As ns cs) (.slice Ai ni ci) (.slice Aa na ca) ln e0 (numsOf s) w) := by
  obtain ⟨W1, hW1⟩ : ∃ W1, ((w.alloc (.cells (sC p (.slice As ns cs) (.slice Ai ni ci) (.slice Aa na ca) (ln + 1) e0).toArray 36)).alloc (.cells zS.toArray 36)) = W1 := ⟨_, rfl⟩
  have t1 : TurnsIn (fun x => (Value.slice Aa na ca).ownBlock = some x) w W1 := by rw [← hW1]; exact ((TurnsIn.refl _ w).alloc _).alloc _
  have t1' : TurnsIn (fun _ => False) w W1 := by rw [← hW1]; exact ((TurnsIn.refl _ w).alloc _).alloc _
  have k2 : Block W1 w.heap.size 36 (sC p (.slice As ns cs) (.slice Ai ni ci) (.slice Aa na ca) (ln + 1) e0).toArray := by rw [← hW1]; exact (Block.new w _ _).alloc _
  have k4 : Block W1 (w.heap.size + 1) 36 zS.toArray := by
    rw [← hW1]
    have := Block.new (w.alloc (.cells (sC p (.slice As ns cs) (.slice Ai ni ci) (.slice Aa na ca) (ln + 1) e0).toArray 36)) 36 zS.toArray
    rwa [World.size_alloc] at this
  have s1 : W1.heap.size = w.heap.size + 2 := by rw [← hW1]; simp
  have hR1 := hR.out t1' (fun _ h => h.elim)
  have hq : IntKind.i64.wrap (ln + 1) = ln + 1 := by rw [IntKind.wrap_i64]; omega
  have HW1 := Lib.hid hW1
  have T1 := Lib.hid t1
  have HK2 := Lib.hid k2
  have HK4 := Lib.hid k4
  have S1 := Lib.hid s1
  have R1 := Lib.hid hR1
  clear hW1 t1 t1' k2 k4 s1 hR1 hR
  by_cases h0 : s.size = 0
  · obtain rfl := str_nil h0
    have HE := Lib.hid (show lineL p (numsOf ⟨#[]⟩) = .ok p by unfold lineL; rw [if_pos (.inl rfl)])
    have s0 : ((⟨#[]⟩ : ByteArray).toList == []) = true := by rw [ByteArray.toList_eq]; rfl
    clear h0
    unfold sC
    go_enter Try.func21, Try.ntmps21
    go_upto_region 2 with (fail)
    have hx1 := HW1.out
    unfold sC zS at hx1
    rw [hx1]
    clear hx1
    have x0 : W1.cell? ⟨w.heap.size, 0, none⟩ = some (.int .i64 p.c0) := HK2.out.cell 0
    have x1 : W1.cell? ⟨w.heap.size, 1, none⟩ = some (.int .i64 p.c1) := HK2.out.cell 1
    have x2 : W1.cell? ⟨w.heap.size, 2, none⟩ = some (.int .i64 p.c2) := HK2.out.cell 2
    have x3 : W1.cell? ⟨w.heap.size, 3, none⟩ = some (.slice As ns cs) := HK2.out.cell 3
    have x4 : W1.cell? ⟨w.heap.size, 4, none⟩ = some (.slice Ai ni ci) := HK2.out.cell 4
    have x5 : W1.cell? ⟨w.heap.size, 5, none⟩ = some (.int .i64 p.v) := HK2.out.cell 5
    have x6 : W1.cell? ⟨w.heap.size, 6, none⟩ = some (.slice Aa na ca) := HK2.out.cell 6
    have x7 : W1.cell? ⟨w.heap.size, 7, none⟩ = some (.bool p.b) := HK2.out.cell 7
    have x8 : W1.cell? ⟨w.heap.size, 8, none⟩ = some (.int .i64 (ln + 1)) := HK2.out.cell 8
    have x9 : W1.cell? ⟨w.heap.size, 9, none⟩ = some (.int .i64 e0) := HK2.out.cell 9
    have xz := fun i => HK2.out.frozen i
    clear xz
    go_wp2_with (have _t := HK4.out; refine wpList_store_blk (cs := zS.toArray) rfl _ _ _ rfl (ds := [.int .i64 p.c0, .int .i64 p.c1, .int .i64 p.c2, .slice As ns cs, .slice Ai ni ci, .int .i64 p.v, .slice Aa na ca, .bool p.b, .int .i64 (ln + 1), .int .i64 e0]) (by exact HK4.out) rfl rfl rfl (by kernel_rfl) (by intro u hu; simp only [List.mem_cons, List.mem_nil_iff, or_false] at hu; rcases hu with rfl | rfl | rfl | rfl | rfl | rfl | rfl | rfl | rfl | rfl <;> rfl) ?_; clear _t; intro w7 X7 g7)
    have r0 : w7.cell? ⟨w.heap.size + 1, 0, none⟩ = some (.int .i64 p.c0) := X7.cell 0
    have r1 : w7.cell? ⟨w.heap.size + 1, 1, none⟩ = some (.int .i64 p.c1) := X7.cell 1
    have r2 : w7.cell? ⟨w.heap.size + 1, 2, none⟩ = some (.int .i64 p.c2) := X7.cell 2
    have r3 : w7.cell? ⟨w.heap.size + 1, 3, none⟩ = some (.slice As ns cs) := X7.cell 3
    have r4 : w7.cell? ⟨w.heap.size + 1, 4, none⟩ = some (.slice Ai ni ci) := X7.cell 4
    have r5 : w7.cell? ⟨w.heap.size + 1, 5, none⟩ = some (.int .i64 p.v) := X7.cell 5
    have r6 : w7.cell? ⟨w.heap.size + 1, 6, none⟩ = some (.slice Aa na ca) := X7.cell 6
    have r7 : w7.cell? ⟨w.heap.size + 1, 7, none⟩ = some (.bool p.b) := X7.cell 7
    have r8 : w7.cell? ⟨w.heap.size + 1, 8, none⟩ = some (.int .i64 (ln + 1)) := X7.cell 8
    have r9 : w7.cell? ⟨w.heap.size + 1, 9, none⟩ = some (.int .i64 e0) := X7.cell 9
    refine bodyPost_ret (v := .agg #[.int .i64 p.c0, .int .i64 p.c1, .int .i64 p.c2, .slice As ns cs, .slice Ai ni ci, .int .i64 p.v, .slice Aa na ca, .bool p.b, .int .i64 (ln + 1), .int .i64 e0]) ?_ rfl ?_
    · simp [results, Try.results21, go_sem, r0, r1, r2, r3, r4, r5, r6, r7, r8, r9]
    · have tg := TurnsIn.ofGrown (S := fun x => x = w.heap.size + 1) g7 (fun b hb => by injection hb with hb; exact hb.symm)
      have t7 := (T1.out).then_ tg (by omega)
      unfold OneQ
      rw [HE.out]
      exact ⟨t7, As, ns, cs, Ai, ni, ci, Aa, na, ca, es, rfl, R1.out.far HK4.out tg⟩
  obtain ⟨e0', e1⟩ := str_ne h0
  have hsz : 0 < s.size := by omega
  have hne : numsOf s ≠ [] := by intro h; have := numsOf_length s; rw [h] at this; simp at this; omega
  have hc0 := numsOf_get s 0 hsz
  by_cases h35 : s[0].toNat = 35
  · have HE := Lib.hid (show lineL p (numsOf s) = .ok p by unfold lineL; rw [if_pos (.inr (by rw [hc0, h35]; rfl))])
    have d4 : (((s[0].toNat : Nat) : Int) == 35) = true := by rw [beq_iff_eq]; omega
    clear h0 hne hc0 h35
    unfold sC
    go_enter Try.func21, Try.ntmps21
    go_upto_region 2 with (fail)
    have hx1 := HW1.out
    unfold sC zS at hx1
    rw [hx1]
    clear hx1
    have x0 : W1.cell? ⟨w.heap.size, 0, none⟩ = some (.int .i64 p.c0) := HK2.out.cell 0
    have x1 : W1.cell? ⟨w.heap.size, 1, none⟩ = some (.int .i64 p.c1) := HK2.out.cell 1
    have x2 : W1.cell? ⟨w.heap.size, 2, none⟩ = some (.int .i64 p.c2) := HK2.out.cell 2
    have x3 : W1.cell? ⟨w.heap.size, 3, none⟩ = some (.slice As ns cs) := HK2.out.cell 3
    have x4 : W1.cell? ⟨w.heap.size, 4, none⟩ = some (.slice Ai ni ci) := HK2.out.cell 4
    have x5 : W1.cell? ⟨w.heap.size, 5, none⟩ = some (.int .i64 p.v) := HK2.out.cell 5
    have x6 : W1.cell? ⟨w.heap.size, 6, none⟩ = some (.slice Aa na ca) := HK2.out.cell 6
    have x7 : W1.cell? ⟨w.heap.size, 7, none⟩ = some (.bool p.b) := HK2.out.cell 7
    have x8 : W1.cell? ⟨w.heap.size, 8, none⟩ = some (.int .i64 (ln + 1)) := HK2.out.cell 8
    have x9 : W1.cell? ⟨w.heap.size, 9, none⟩ = some (.int .i64 e0) := HK2.out.cell 9
    have xz := fun i => HK2.out.frozen i
    clear xz
    go_wp2_with (have _t := HK4.out; refine wpList_store_blk (cs := zS.toArray) rfl _ _ _ rfl (ds := [.int .i64 p.c0, .int .i64 p.c1, .int .i64 p.c2, .slice As ns cs, .slice Ai ni ci, .int .i64 p.v, .slice Aa na ca, .bool p.b, .int .i64 (ln + 1), .int .i64 e0]) (by exact HK4.out) rfl rfl rfl (by kernel_rfl) (by intro u hu; simp only [List.mem_cons, List.mem_nil_iff, or_false] at hu; rcases hu with rfl | rfl | rfl | rfl | rfl | rfl | rfl | rfl | rfl | rfl <;> rfl) ?_; clear _t; intro w7 X7 g7)
    have r0 : w7.cell? ⟨w.heap.size + 1, 0, none⟩ = some (.int .i64 p.c0) := X7.cell 0
    have r1 : w7.cell? ⟨w.heap.size + 1, 1, none⟩ = some (.int .i64 p.c1) := X7.cell 1
    have r2 : w7.cell? ⟨w.heap.size + 1, 2, none⟩ = some (.int .i64 p.c2) := X7.cell 2
    have r3 : w7.cell? ⟨w.heap.size + 1, 3, none⟩ = some (.slice As ns cs) := X7.cell 3
    have r4 : w7.cell? ⟨w.heap.size + 1, 4, none⟩ = some (.slice Ai ni ci) := X7.cell 4
    have r5 : w7.cell? ⟨w.heap.size + 1, 5, none⟩ = some (.int .i64 p.v) := X7.cell 5
    have r6 : w7.cell? ⟨w.heap.size + 1, 6, none⟩ = some (.slice Aa na ca) := X7.cell 6
    have r7 : w7.cell? ⟨w.heap.size + 1, 7, none⟩ = some (.bool p.b) := X7.cell 7
    have r8 : w7.cell? ⟨w.heap.size + 1, 8, none⟩ = some (.int .i64 (ln + 1)) := X7.cell 8
    have r9 : w7.cell? ⟨w.heap.size + 1, 9, none⟩ = some (.int .i64 e0) := X7.cell 9
    refine bodyPost_ret (v := .agg #[.int .i64 p.c0, .int .i64 p.c1, .int .i64 p.c2, .slice As ns cs, .slice Ai ni ci, .int .i64 p.v, .slice Aa na ca, .bool p.b, .int .i64 (ln + 1), .int .i64 e0]) ?_ rfl ?_
    · simp [results, Try.results21, go_sem, r0, r1, r2, r3, r4, r5, r6, r7, r8, r9]
    · have tg := TurnsIn.ofGrown (S := fun x => x = w.heap.size + 1) g7 (fun b hb => by injection hb with hb; exact hb.symm)
      have t7 := (T1.out).then_ tg (by omega)
      unfold OneQ
      rw [HE.out]
      exact ⟨t7, As, ns, cs, Ai, ni, ci, Aa, na, ca, es, rfl, R1.out.far HK4.out tg⟩
  have d4 : (((s[0].toNat : Nat) : Int) == 35) = false := by rw [beq_eq_false_iff_ne]; omega
  have HLR := Lib.hid (show lineL p (numsOf s) = if p.b = false then beginP p (wordsL (numsOf s)) else match actL (numsOf s) with
      | .error e => .error e
      | .ok a => .ok { p with al := p.al ++ [a] } by
    unfold lineL
    rw [if_neg (fun h => h.elim hne (fun h => h35 (by rw [hc0] at h; omega)))]
    rfl)
  clear h0 hne hc0 h35
  by_cases hb : p.b = false
  · have HLB := Lib.hid (show lineL p (numsOf s) = beginP p (wordsL (numsOf s)) by rw [HLR.out, if_pos hb])
    have GB := Lib.hid (rbegin_any p As Ai Aa ns cs ni ci na ca (ln + 1) e0 s W1 hs)
    unfold sC at GB
    have HB0 := Lib.hid hb
    clear hb
    cases hbe : beginP p (wordsL (numsOf s)) with
    | error k =>
      have HE := Lib.hid (show lineL p (numsOf s) = .error k by rw [HLB.out, hbe])
      have GE := Lib.hid (GB.out.mono (R' := fun e w' => e = .returned (.agg (sC p (.slice As ns cs) (.slice Ai ni ci) (.slice Aa na ca) (ln + 1) k).toArray) ∧ Below W1.heap.size W1 w') (fun e w' h => by
        unfold BeginQ at h
        rw [hbe] at h
        exact ⟨h.2, h.1⟩))
      clear GB hbe
      unfold sC
      go_enter Try.func21, Try.ntmps21
      go_upto_region 2 with (fail)
      have hx1 := HW1.out
      unfold sC zS at hx1
      rw [hx1]
      clear hx1
      have x0 : W1.cell? ⟨w.heap.size, 0, none⟩ = some (.int .i64 p.c0) := HK2.out.cell 0
      have x1 : W1.cell? ⟨w.heap.size, 1, none⟩ = some (.int .i64 p.c1) := HK2.out.cell 1
      have x2 : W1.cell? ⟨w.heap.size, 2, none⟩ = some (.int .i64 p.c2) := HK2.out.cell 2
      have x3 : W1.cell? ⟨w.heap.size, 3, none⟩ = some (.slice As ns cs) := HK2.out.cell 3
      have x4 : W1.cell? ⟨w.heap.size, 4, none⟩ = some (.slice Ai ni ci) := HK2.out.cell 4
      have x5 : W1.cell? ⟨w.heap.size, 5, none⟩ = some (.int .i64 p.v) := HK2.out.cell 5
      have x6 : W1.cell? ⟨w.heap.size, 6, none⟩ = some (.slice Aa na ca) := HK2.out.cell 6
      have x7 : W1.cell? ⟨w.heap.size, 7, none⟩ = some (.bool p.b) := HK2.out.cell 7
      have x8 : W1.cell? ⟨w.heap.size, 8, none⟩ = some (.int .i64 (ln + 1)) := HK2.out.cell 8
      have x9 : W1.cell? ⟨w.heap.size, 9, none⟩ = some (.int .i64 e0) := HK2.out.cell 9
      have xz := fun i => HK2.out.frozen i
      rw [HB0.out] at x7
      rw [HB0.out] at GE
      clear xz
      go_wp2_with fail
      refine GE.out.mono ?_
      rintro e w5 ⟨rfl, hb5⟩
      have K5 := Lib.hid (HK4.out.below hb5 (by rw [S1.out]; omega))
      have T5 := Lib.hid (T1.out.trans (.ofNew hb5))
      clear hb5
      unfold sC
      go_wp2_with (have _t := K5.out; refine wpList_store_blk (cs := zS.toArray) rfl _ _ _ rfl (ds := [.int .i64 p.c0, .int .i64 p.c1, .int .i64 p.c2, .slice As ns cs, .slice Ai ni ci, .int .i64 p.v, .slice Aa na ca, .bool p.b, .int .i64 (ln + 1), .int .i64 k]) (by exact K5.out) rfl rfl rfl (by kernel_rfl) (by intro u hu; simp only [List.mem_cons, List.mem_nil_iff, or_false] at hu; rcases hu with rfl | rfl | rfl | rfl | rfl | rfl | rfl | rfl | rfl | rfl <;> rfl) ?_; clear _t; intro w7 X7 g7)
      have r0 : w7.cell? ⟨w.heap.size + 1, 0, none⟩ = some (.int .i64 p.c0) := X7.cell 0
      have r1 : w7.cell? ⟨w.heap.size + 1, 1, none⟩ = some (.int .i64 p.c1) := X7.cell 1
      have r2 : w7.cell? ⟨w.heap.size + 1, 2, none⟩ = some (.int .i64 p.c2) := X7.cell 2
      have r3 : w7.cell? ⟨w.heap.size + 1, 3, none⟩ = some (.slice As ns cs) := X7.cell 3
      have r4 : w7.cell? ⟨w.heap.size + 1, 4, none⟩ = some (.slice Ai ni ci) := X7.cell 4
      have r5 : w7.cell? ⟨w.heap.size + 1, 5, none⟩ = some (.int .i64 p.v) := X7.cell 5
      have r6 : w7.cell? ⟨w.heap.size + 1, 6, none⟩ = some (.slice Aa na ca) := X7.cell 6
      have r7 : w7.cell? ⟨w.heap.size + 1, 7, none⟩ = some (.bool p.b) := X7.cell 7
      have r8 : w7.cell? ⟨w.heap.size + 1, 8, none⟩ = some (.int .i64 (ln + 1)) := X7.cell 8
      have r9 : w7.cell? ⟨w.heap.size + 1, 9, none⟩ = some (.int .i64 k) := X7.cell 9
      refine bodyPost_ret (v := .agg #[.int .i64 p.c0, .int .i64 p.c1, .int .i64 p.c2, .slice As ns cs, .slice Ai ni ci, .int .i64 p.v, .slice Aa na ca, .bool p.b, .int .i64 (ln + 1), .int .i64 k]) ?_ rfl ?_
      · simp [results, Try.results21, go_sem, r0, r1, r2, r3, r4, r5, r6, r7, r8, r9]
      · have tg := TurnsIn.ofGrown (S := fun x => x = w.heap.size + 1) g7 (fun b hb => by injection hb with hb; exact hb.symm)
        have t7 := (T5.out).then_ tg (by omega)
        unfold OneQ
        rw [HE.out]
        exact ⟨t7, As, ns, cs, Ai, ni, ci, Aa, na, ca, rfl⟩
    | ok q =>
      have HE := Lib.hid (show lineL p (numsOf s) = .ok q by rw [HLB.out, hbe])
      have GE := Lib.hid (GB.out.mono (R' := fun e w' => (∃ As ns cs Ai ni ci, e = .returned (.agg (sC q (.slice As ns cs) (.slice Ai ni ci) (.slice Aa na ca) (ln + 1) e0).toArray) ∧ Own w' W1.heap.size 5 .u8 (.slice As ns cs) q.sd ∧ Own w' W1.heap.size 5 .u8 (.slice Ai ni ci) q.im) ∧ Below W1.heap.size W1 w') (fun e w' h => by
        unfold BeginQ at h
        rw [hbe] at h
        exact ⟨h.2, h.1⟩))
      have HQA := Lib.hid (show q.al = p.al by
        unfold beginP at hbe
        split at hbe
        · split at hbe
          · cases hbe
          · cases hbe; rfl
        · cases hbe)
      clear GB hbe
      unfold sC
      go_enter Try.func21, Try.ntmps21
      go_upto_region 2 with (fail)
      have hx1 := HW1.out
      unfold sC zS at hx1
      rw [hx1]
      clear hx1
      have x0 : W1.cell? ⟨w.heap.size, 0, none⟩ = some (.int .i64 p.c0) := HK2.out.cell 0
      have x1 : W1.cell? ⟨w.heap.size, 1, none⟩ = some (.int .i64 p.c1) := HK2.out.cell 1
      have x2 : W1.cell? ⟨w.heap.size, 2, none⟩ = some (.int .i64 p.c2) := HK2.out.cell 2
      have x3 : W1.cell? ⟨w.heap.size, 3, none⟩ = some (.slice As ns cs) := HK2.out.cell 3
      have x4 : W1.cell? ⟨w.heap.size, 4, none⟩ = some (.slice Ai ni ci) := HK2.out.cell 4
      have x5 : W1.cell? ⟨w.heap.size, 5, none⟩ = some (.int .i64 p.v) := HK2.out.cell 5
      have x6 : W1.cell? ⟨w.heap.size, 6, none⟩ = some (.slice Aa na ca) := HK2.out.cell 6
      have x7 : W1.cell? ⟨w.heap.size, 7, none⟩ = some (.bool p.b) := HK2.out.cell 7
      have x8 : W1.cell? ⟨w.heap.size, 8, none⟩ = some (.int .i64 (ln + 1)) := HK2.out.cell 8
      have x9 : W1.cell? ⟨w.heap.size, 9, none⟩ = some (.int .i64 e0) := HK2.out.cell 9
      have xz := fun i => HK2.out.frozen i
      rw [HB0.out] at x7
      rw [HB0.out] at GE
      clear xz
      go_wp2_with fail
      refine GE.out.mono ?_
      rintro e w5 ⟨⟨Bs, ms, ds, Bi, mi, di, rfl, os5, oi5⟩, hb5⟩
      have K5 := Lib.hid (HK4.out.below hb5 (by rw [S1.out]; omega))
      have T5 := Lib.hid (T1.out.trans (.ofNew hb5))
      have R5 := Lib.hid (show SRows w5 B q (.slice Bs ms ds) (.slice Bi mi di) (.slice Aa na ca) es from ⟨os5.mono (by rw [S1.out]; omega), oi5.mono (by rw [S1.out]; omega), (R1.out.out (S := fun _ => False) (.ofNew hb5) (fun _ h => h.elim)).oa, R1.out.al.trans HQA.out.symm, (R1.out.out (S := fun _ => False) (.ofNew hb5) (fun _ h => h.elim)).ds⟩)
      clear hb5 os5 oi5
      unfold sC
      go_wp2_with (have _t := K5.out; refine wpList_store_blk (cs := zS.toArray) rfl _ _ _ rfl (ds := [.int .i64 q.c0, .int .i64 q.c1, .int .i64 q.c2, .slice Bs ms ds, .slice Bi mi di, .int .i64 q.v, .slice Aa na ca, .bool q.b, .int .i64 (ln + 1), .int .i64 e0]) (by exact K5.out) rfl rfl rfl (by kernel_rfl) (by intro u hu; simp only [List.mem_cons, List.mem_nil_iff, or_false] at hu; rcases hu with rfl | rfl | rfl | rfl | rfl | rfl | rfl | rfl | rfl | rfl <;> rfl) ?_; clear _t; intro w7 X7 g7)
      have r0 : w7.cell? ⟨w.heap.size + 1, 0, none⟩ = some (.int .i64 q.c0) := X7.cell 0
      have r1 : w7.cell? ⟨w.heap.size + 1, 1, none⟩ = some (.int .i64 q.c1) := X7.cell 1
      have r2 : w7.cell? ⟨w.heap.size + 1, 2, none⟩ = some (.int .i64 q.c2) := X7.cell 2
      have r3 : w7.cell? ⟨w.heap.size + 1, 3, none⟩ = some (.slice Bs ms ds) := X7.cell 3
      have r4 : w7.cell? ⟨w.heap.size + 1, 4, none⟩ = some (.slice Bi mi di) := X7.cell 4
      have r5 : w7.cell? ⟨w.heap.size + 1, 5, none⟩ = some (.int .i64 q.v) := X7.cell 5
      have r6 : w7.cell? ⟨w.heap.size + 1, 6, none⟩ = some (.slice Aa na ca) := X7.cell 6
      have r7 : w7.cell? ⟨w.heap.size + 1, 7, none⟩ = some (.bool q.b) := X7.cell 7
      have r8 : w7.cell? ⟨w.heap.size + 1, 8, none⟩ = some (.int .i64 (ln + 1)) := X7.cell 8
      have r9 : w7.cell? ⟨w.heap.size + 1, 9, none⟩ = some (.int .i64 e0) := X7.cell 9
      refine bodyPost_ret (v := .agg #[.int .i64 q.c0, .int .i64 q.c1, .int .i64 q.c2, .slice Bs ms ds, .slice Bi mi di, .int .i64 q.v, .slice Aa na ca, .bool q.b, .int .i64 (ln + 1), .int .i64 e0]) ?_ rfl ?_
      · simp [results, Try.results21, go_sem, r0, r1, r2, r3, r4, r5, r6, r7, r8, r9]
      · have tg := TurnsIn.ofGrown (S := fun x => x = w.heap.size + 1) g7 (fun b hb => by injection hb with hb; exact hb.symm)
        have t7 := (T5.out).then_ tg (by omega)
        unfold OneQ
        rw [HE.out]
        exact ⟨t7, Bs, ms, ds, Bi, mi, di, Aa, na, ca, es, rfl, R5.out.far K5.out tg⟩
  have hbt : p.b = true := by cases h : p.b with | true => rfl | false => exact absurd h hb
  have HLA := Lib.hid (show lineL p (numsOf s) = match actL (numsOf s) with
      | .error e => .error e
      | .ok a => .ok { p with al := p.al ++ [a] } by rw [HLR.out, if_neg hb])
  have GA := Lib.hid (ract_any s W1 hs)
  have HBT := Lib.hid hbt
  clear hb hbt
  cases hac : actL (numsOf s) with
  | error k =>
    have HE := Lib.hid (show lineL p (numsOf s) = .error k by rw [HLA.out, hac])
    have hk : k ≠ 0 := by
      unfold actL at hac
      split at hac
      · cases hac; decide
      · split at hac
        · cases hac; decide
        · cases hac
    have dk : (k == 0) = false := by rw [beq_eq_false_iff_ne]; exact hk
    have GE := Lib.hid (GA.out.mono (R' := fun e w' => e = .returned (.tuple #[actV zeroA (.slice none 0 0), .int .i64 k]) ∧ Below W1.heap.size W1 w') (fun e w' h => by
      unfold ActTo at h
      rw [hac] at h
      exact ⟨h.2, h.1⟩))
    unfold actV zeroA at GE
    clear GA hac hk
    unfold sC
    go_enter Try.func21, Try.ntmps21
    go_upto_region 2 with (fail)
    have hx1 := HW1.out
    unfold sC zS at hx1
    rw [hx1]
    clear hx1
    have x0 : W1.cell? ⟨w.heap.size, 0, none⟩ = some (.int .i64 p.c0) := HK2.out.cell 0
    have x1 : W1.cell? ⟨w.heap.size, 1, none⟩ = some (.int .i64 p.c1) := HK2.out.cell 1
    have x2 : W1.cell? ⟨w.heap.size, 2, none⟩ = some (.int .i64 p.c2) := HK2.out.cell 2
    have x3 : W1.cell? ⟨w.heap.size, 3, none⟩ = some (.slice As ns cs) := HK2.out.cell 3
    have x4 : W1.cell? ⟨w.heap.size, 4, none⟩ = some (.slice Ai ni ci) := HK2.out.cell 4
    have x5 : W1.cell? ⟨w.heap.size, 5, none⟩ = some (.int .i64 p.v) := HK2.out.cell 5
    have x6 : W1.cell? ⟨w.heap.size, 6, none⟩ = some (.slice Aa na ca) := HK2.out.cell 6
    have x7 : W1.cell? ⟨w.heap.size, 7, none⟩ = some (.bool p.b) := HK2.out.cell 7
    have x8 : W1.cell? ⟨w.heap.size, 8, none⟩ = some (.int .i64 (ln + 1)) := HK2.out.cell 8
    have x9 : W1.cell? ⟨w.heap.size, 9, none⟩ = some (.int .i64 e0) := HK2.out.cell 9
    have xz := fun i => HK2.out.frozen i
    rw [HBT.out] at x7
    clear x0 x1 x2 x3 x4 x5 x6 x8 x9 xz
    go_wp2_with fail
    refine GE.out.mono ?_
    rintro e w5 ⟨rfl, hb5⟩
    clear x7
    have K2 := (HK2.out.below hb5 (by rw [S1.out]; omega)).alloc (.cells #[.int .u8 0, .int .u8 0, .int .i64 0, .int .i64 0, .int .u64 0, .slice none 0 0] 40)
    have K5 := Lib.hid (((HK4.out.below hb5 (by rw [S1.out]; omega)).alloc (.cells #[.int .u8 0, .int .u8 0, .int .i64 0, .int .i64 0, .int .u64 0, .slice none 0 0] 40)).far (p := ⟨w.heap.size, 9, none⟩) (by simp) (.int .i64 k))
    have T5 := Lib.hid ((T1.out.trans (.ofNew hb5)).alloc (.cells #[.int .u8 0, .int .u8 0, .int .i64 0, .int .i64 0, .int .u64 0, .slice none 0 0] 40))
    have T6 := Lib.hid (T5.out.then_ ((TurnsIn.refl (fun x => x = w.heap.size) _).setCell (p := ⟨w.heap.size, 9, none⟩) (.inl rfl) (.int .i64 k)) (by omega))
    clear hb5
    have y0 : (w5.alloc (.cells #[.int .u8 0, .int .u8 0, .int .i64 0, .int .i64 0, .int .u64 0, .slice none 0 0] 40)).cell? ⟨w.heap.size, 0, none⟩ = some (.int .i64 p.c0) := K2.cell 0
    have y1 : (w5.alloc (.cells #[.int .u8 0, .int .u8 0, .int .i64 0, .int .i64 0, .int .u64 0, .slice none 0 0] 40)).cell? ⟨w.heap.size, 1, none⟩ = some (.int .i64 p.c1) := K2.cell 1
    have y2 : (w5.alloc (.cells #[.int .u8 0, .int .u8 0, .int .i64 0, .int .i64 0, .int .u64 0, .slice none 0 0] 40)).cell? ⟨w.heap.size, 2, none⟩ = some (.int .i64 p.c2) := K2.cell 2
    have y3 : (w5.alloc (.cells #[.int .u8 0, .int .u8 0, .int .i64 0, .int .i64 0, .int .u64 0, .slice none 0 0] 40)).cell? ⟨w.heap.size, 3, none⟩ = some (.slice As ns cs) := K2.cell 3
    have y4 : (w5.alloc (.cells #[.int .u8 0, .int .u8 0, .int .i64 0, .int .i64 0, .int .u64 0, .slice none 0 0] 40)).cell? ⟨w.heap.size, 4, none⟩ = some (.slice Ai ni ci) := K2.cell 4
    have y5 : (w5.alloc (.cells #[.int .u8 0, .int .u8 0, .int .i64 0, .int .i64 0, .int .u64 0, .slice none 0 0] 40)).cell? ⟨w.heap.size, 5, none⟩ = some (.int .i64 p.v) := K2.cell 5
    have y6 : (w5.alloc (.cells #[.int .u8 0, .int .u8 0, .int .i64 0, .int .i64 0, .int .u64 0, .slice none 0 0] 40)).cell? ⟨w.heap.size, 6, none⟩ = some (.slice Aa na ca) := K2.cell 6
    have y7 : (w5.alloc (.cells #[.int .u8 0, .int .u8 0, .int .i64 0, .int .i64 0, .int .u64 0, .slice none 0 0] 40)).cell? ⟨w.heap.size, 7, none⟩ = some (.bool p.b) := K2.cell 7
    have y8 : (w5.alloc (.cells #[.int .u8 0, .int .u8 0, .int .i64 0, .int .i64 0, .int .u64 0, .slice none 0 0] 40)).cell? ⟨w.heap.size, 8, none⟩ = some (.int .i64 (ln + 1)) := K2.cell 8
    have y9 : (w5.alloc (.cells #[.int .u8 0, .int .u8 0, .int .i64 0, .int .i64 0, .int .u64 0, .slice none 0 0] 40)).cell? ⟨w.heap.size, 9, none⟩ = some (.int .i64 e0) := K2.cell 9
    have yz := fun i => K2.frozen i
    clear K2
    go_upto_region 9 with (fail)
    go_wp2_with (have _t := K5.out; refine wpList_store_blk (cs := zS.toArray) rfl _ _ _ rfl (ds := [.int .i64 p.c0, .int .i64 p.c1, .int .i64 p.c2, .slice As ns cs, .slice Ai ni ci, .int .i64 p.v, .slice Aa na ca, .bool p.b, .int .i64 (ln + 1), .int .i64 k]) (by exact K5.out) rfl rfl rfl (by kernel_rfl) (by intro u hu; simp only [List.mem_cons, List.mem_nil_iff, or_false] at hu; rcases hu with rfl | rfl | rfl | rfl | rfl | rfl | rfl | rfl | rfl | rfl <;> rfl) ?_; clear _t; intro w7 X7 g7)
    have r0 : w7.cell? ⟨w.heap.size + 1, 0, none⟩ = some (.int .i64 p.c0) := X7.cell 0
    have r1 : w7.cell? ⟨w.heap.size + 1, 1, none⟩ = some (.int .i64 p.c1) := X7.cell 1
    have r2 : w7.cell? ⟨w.heap.size + 1, 2, none⟩ = some (.int .i64 p.c2) := X7.cell 2
    have r3 : w7.cell? ⟨w.heap.size + 1, 3, none⟩ = some (.slice As ns cs) := X7.cell 3
    have r4 : w7.cell? ⟨w.heap.size + 1, 4, none⟩ = some (.slice Ai ni ci) := X7.cell 4
    have r5 : w7.cell? ⟨w.heap.size + 1, 5, none⟩ = some (.int .i64 p.v) := X7.cell 5
    have r6 : w7.cell? ⟨w.heap.size + 1, 6, none⟩ = some (.slice Aa na ca) := X7.cell 6
    have r7 : w7.cell? ⟨w.heap.size + 1, 7, none⟩ = some (.bool p.b) := X7.cell 7
    have r8 : w7.cell? ⟨w.heap.size + 1, 8, none⟩ = some (.int .i64 (ln + 1)) := X7.cell 8
    have r9 : w7.cell? ⟨w.heap.size + 1, 9, none⟩ = some (.int .i64 k) := X7.cell 9
    refine bodyPost_ret (v := .agg #[.int .i64 p.c0, .int .i64 p.c1, .int .i64 p.c2, .slice As ns cs, .slice Ai ni ci, .int .i64 p.v, .slice Aa na ca, .bool p.b, .int .i64 (ln + 1), .int .i64 k]) ?_ rfl ?_
    · simp [results, Try.results21, go_sem, r0, r1, r2, r3, r4, r5, r6, r7, r8, r9]
    · have tg := TurnsIn.ofGrown (S := fun x => x = w.heap.size + 1) g7 (fun b hb => by injection hb with hb; exact hb.symm)
      have t7 := (T6.out).then_ tg (by omega)
      unfold OneQ
      rw [HE.out]
      exact ⟨t7, As, ns, cs, Ai, ni, ci, Aa, na, ca, rfl⟩
  | ok a =>
    have HE := Lib.hid (show lineL p (numsOf s) = .ok { p with al := p.al ++ [a] } by rw [HLA.out, hac])
    have GE := Lib.hid (GA.out.mono (R' := fun e w' => (∃ A c, e = .returned (.tuple #[actV a (.slice A a.d.length c), .int .i64 0]) ∧ Own w' W1.heap.size 5 .u8 (.slice A a.d.length c) a.d) ∧ Below W1.heap.size W1 w') (fun e w' h => by
      unfold ActTo at h
      rw [hac] at h
      obtain ⟨h1, v, h2, h3⟩ := h
      obtain ⟨A, c, rfl, _, _, _⟩ := h3.opened
      exact ⟨⟨A, c, h2, h3⟩, h1⟩))
    unfold actV at GE
    obtain ⟨nd, hnd⟩ : ∃ n, a.d.length = n := ⟨_, rfl⟩
    rw [hnd] at GE
    obtain ⟨ka, ma, pa, na', va, da⟩ := a
    simp only at GE hnd
    clear GA hac hnd
    unfold sC
    go_enter Try.func21, Try.ntmps21
    go_upto_region 2 with (fail)
    have hx1 := HW1.out
    unfold sC zS at hx1
    rw [hx1]
    clear hx1
    have x0 : W1.cell? ⟨w.heap.size, 0, none⟩ = some (.int .i64 p.c0) := HK2.out.cell 0
    have x1 : W1.cell? ⟨w.heap.size, 1, none⟩ = some (.int .i64 p.c1) := HK2.out.cell 1
    have x2 : W1.cell? ⟨w.heap.size, 2, none⟩ = some (.int .i64 p.c2) := HK2.out.cell 2
    have x3 : W1.cell? ⟨w.heap.size, 3, none⟩ = some (.slice As ns cs) := HK2.out.cell 3
    have x4 : W1.cell? ⟨w.heap.size, 4, none⟩ = some (.slice Ai ni ci) := HK2.out.cell 4
    have x5 : W1.cell? ⟨w.heap.size, 5, none⟩ = some (.int .i64 p.v) := HK2.out.cell 5
    have x6 : W1.cell? ⟨w.heap.size, 6, none⟩ = some (.slice Aa na ca) := HK2.out.cell 6
    have x7 : W1.cell? ⟨w.heap.size, 7, none⟩ = some (.bool p.b) := HK2.out.cell 7
    have x8 : W1.cell? ⟨w.heap.size, 8, none⟩ = some (.int .i64 (ln + 1)) := HK2.out.cell 8
    have x9 : W1.cell? ⟨w.heap.size, 9, none⟩ = some (.int .i64 e0) := HK2.out.cell 9
    have xz := fun i => HK2.out.frozen i
    rw [HBT.out] at x7
    clear x0 x1 x2 x3 x4 x5 x6 x8 x9 xz
    go_wp2_with fail
    refine GE.out.mono ?_
    rintro e w5 ⟨⟨A5, c5, rfl, o5⟩, hb5⟩
    clear x7
    have K2 := Lib.hid ((HK2.out.below hb5 (by rw [S1.out]; omega)).alloc (.cells #[.int .u8 ka, .int .u8 ma, .int .i64 pa, .int .i64 na', .int .u64 va, .slice A5 nd c5] 40))
    have K5 := Lib.hid ((HK4.out.below hb5 (by rw [S1.out]; omega)).alloc (.cells #[.int .u8 ka, .int .u8 ma, .int .i64 pa, .int .i64 na', .int .u64 va, .slice A5 nd c5] 40))
    have T5 := Lib.hid ((T1.out.trans (.ofNew hb5)).alloc (.cells #[.int .u8 ka, .int .u8 ma, .int .i64 pa, .int .i64 na', .int .u64 va, .slice A5 nd c5] 40))
    have R5 := Lib.hid ((R1.out.out (S := fun _ => False) (.ofNew hb5) (fun _ h => h.elim)).out ((TurnsIn.refl (fun _ => False) w5).alloc (.cells #[.int .u8 ka, .int .u8 ma, .int .i64 pa, .int .i64 na', .int .u64 va, .slice A5 nd c5] 40)) (fun _ h => h.elim))
    have O5 := Lib.hid ((o5.mono (B' := B) (by rw [S1.out]; omega)).alloc (.cells #[.int .u8 ka, .int .u8 ma, .int .i64 pa, .int .i64 na', .int .u64 va, .slice A5 nd c5] 40))
    have AB := Block.new w5 40 #[.int .u8 ka, .int .u8 ma, .int .i64 pa, .int .i64 na', .int .u64 va, .slice A5 nd c5]
    have hB6 : B ≤ (w5.alloc (.cells #[.int .u8 ka, .int .u8 ma, .int .i64 pa, .int .i64 na', .int .u64 va, .slice A5 nd c5] 40)).heap.size := by have := hb5.size; rw [S1.out] at this; simp; omega
    have OA := R5.out.oa
    clear hb5 o5
    have y0 : (w5.alloc (.cells #[.int .u8 ka, .int .u8 ma, .int .i64 pa, .int .i64 na', .int .u64 va, .slice A5 nd c5] 40)).cell? ⟨w.heap.size, 0, none⟩ = some (.int .i64 p.c0) := K2.out.cell 0
    have y1 : (w5.alloc (.cells #[.int .u8 ka, .int .u8 ma, .int .i64 pa, .int .i64 na', .int .u64 va, .slice A5 nd c5] 40)).cell? ⟨w.heap.size, 1, none⟩ = some (.int .i64 p.c1) := K2.out.cell 1
    have y2 : (w5.alloc (.cells #[.int .u8 ka, .int .u8 ma, .int .i64 pa, .int .i64 na', .int .u64 va, .slice A5 nd c5] 40)).cell? ⟨w.heap.size, 2, none⟩ = some (.int .i64 p.c2) := K2.out.cell 2
    have y3 : (w5.alloc (.cells #[.int .u8 ka, .int .u8 ma, .int .i64 pa, .int .i64 na', .int .u64 va, .slice A5 nd c5] 40)).cell? ⟨w.heap.size, 3, none⟩ = some (.slice As ns cs) := K2.out.cell 3
    have y4 : (w5.alloc (.cells #[.int .u8 ka, .int .u8 ma, .int .i64 pa, .int .i64 na', .int .u64 va, .slice A5 nd c5] 40)).cell? ⟨w.heap.size, 4, none⟩ = some (.slice Ai ni ci) := K2.out.cell 4
    have y5 : (w5.alloc (.cells #[.int .u8 ka, .int .u8 ma, .int .i64 pa, .int .i64 na', .int .u64 va, .slice A5 nd c5] 40)).cell? ⟨w.heap.size, 5, none⟩ = some (.int .i64 p.v) := K2.out.cell 5
    have y6 : (w5.alloc (.cells #[.int .u8 ka, .int .u8 ma, .int .i64 pa, .int .i64 na', .int .u64 va, .slice A5 nd c5] 40)).cell? ⟨w.heap.size, 6, none⟩ = some (.slice Aa na ca) := K2.out.cell 6
    have y7 : (w5.alloc (.cells #[.int .u8 ka, .int .u8 ma, .int .i64 pa, .int .i64 na', .int .u64 va, .slice A5 nd c5] 40)).cell? ⟨w.heap.size, 7, none⟩ = some (.bool p.b) := K2.out.cell 7
    have y8 : (w5.alloc (.cells #[.int .u8 ka, .int .u8 ma, .int .i64 pa, .int .i64 na', .int .u64 va, .slice A5 nd c5] 40)).cell? ⟨w.heap.size, 8, none⟩ = some (.int .i64 (ln + 1)) := K2.out.cell 8
    have y9 : (w5.alloc (.cells #[.int .u8 ka, .int .u8 ma, .int .i64 pa, .int .i64 na', .int .u64 va, .slice A5 nd c5] 40)).cell? ⟨w.heap.size, 9, none⟩ = some (.int .i64 e0) := K2.out.cell 9
    have yz := fun i => K2.out.frozen i
    go_upto_region 10 with (fail)
    clear y0 y1 y2 y3 y4 y5 y6 y7 y8 y9 yz
    obtain ⟨W6, hW6⟩ : ∃ W6, (w5.alloc (.cells #[.int .u8 ka, .int .u8 ma, .int .i64 pa, .int .i64 na', .int .u64 va, .slice A5 nd c5] 40)) = W6 := ⟨_, rfl⟩
    rw [hW6] at K2 K5 T5 R5 O5 AB hB6 OA ⊢
    clear hW6
    have y0 : W6.cell? ⟨w.heap.size, 0, none⟩ = some (.int .i64 p.c0) := K2.out.cell 0
    have y1 : W6.cell? ⟨w.heap.size, 1, none⟩ = some (.int .i64 p.c1) := K2.out.cell 1
    have y2 : W6.cell? ⟨w.heap.size, 2, none⟩ = some (.int .i64 p.c2) := K2.out.cell 2
    have y3 : W6.cell? ⟨w.heap.size, 3, none⟩ = some (.slice As ns cs) := K2.out.cell 3
    have y4 : W6.cell? ⟨w.heap.size, 4, none⟩ = some (.slice Ai ni ci) := K2.out.cell 4
    have y5 : W6.cell? ⟨w.heap.size, 5, none⟩ = some (.int .i64 p.v) := K2.out.cell 5
    have y6 : W6.cell? ⟨w.heap.size, 6, none⟩ = some (.slice Aa na ca) := K2.out.cell 6
    have y7 : W6.cell? ⟨w.heap.size, 7, none⟩ = some (.bool p.b) := K2.out.cell 7
    have y8 : W6.cell? ⟨w.heap.size, 8, none⟩ = some (.int .i64 (ln + 1)) := K2.out.cell 8
    have y9 : W6.cell? ⟨w.heap.size, 9, none⟩ = some (.int .i64 e0) := K2.out.cell 9
    have yz := fun i => K2.out.frozen i
    have q0 : W6.cell? ⟨w5.heap.size, 0, none⟩ = some (.int .u8 ka) := AB.cell 0
    have q1 : W6.cell? ⟨w5.heap.size, 1, none⟩ = some (.int .u8 ma) := AB.cell 1
    have q2 : W6.cell? ⟨w5.heap.size, 2, none⟩ = some (.int .i64 pa) := AB.cell 2
    have q3 : W6.cell? ⟨w5.heap.size, 3, none⟩ = some (.int .i64 na') := AB.cell 3
    have q4 : W6.cell? ⟨w5.heap.size, 4, none⟩ = some (.int .u64 va) := AB.cell 4
    have q5 : W6.cell? ⟨w5.heap.size, 5, none⟩ = some (.slice A5 nd c5) := AB.cell 5
    have qz := fun i => AB.frozen i
    clear AB qz
    go_upto_region 11 with (at_builtin; have _t := OA; go_loud (refine wpList_append_act rfl _ _ rfl ⟨ka, ma, pa, na', va, da⟩ A5 nd c5 (by exact OA) rfl rfl hes hB6 ?_; intro A8 c8 w8 O8 t8; have b8 := K2.out.out t8 (OA.ne_block K2.out (by decide)); have u0 : w8.cell? ⟨w.heap.size, 0, none⟩ = some (.int .i64 p.c0) := b8.cell 0; have u1 : w8.cell? ⟨w.heap.size, 1, none⟩ = some (.int .i64 p.c1) := b8.cell 1; have u2 : w8.cell? ⟨w.heap.size, 2, none⟩ = some (.int .i64 p.c2) := b8.cell 2; have u3 : w8.cell? ⟨w.heap.size, 3, none⟩ = some (.slice As ns cs) := b8.cell 3; have u4 : w8.cell? ⟨w.heap.size, 4, none⟩ = some (.slice Ai ni ci) := b8.cell 4; have u5 : w8.cell? ⟨w.heap.size, 5, none⟩ = some (.int .i64 p.v) := b8.cell 5; have u6 : w8.cell? ⟨w.heap.size, 6, none⟩ = some (.slice Aa na ca) := b8.cell 6; have u7 : w8.cell? ⟨w.heap.size, 7, none⟩ = some (.bool p.b) := b8.cell 7; have u8 : w8.cell? ⟨w.heap.size, 8, none⟩ = some (.int .i64 (ln + 1)) := b8.cell 8; have u9 : w8.cell? ⟨w.heap.size, 9, none⟩ = some (.int .i64 e0) := b8.cell 9; have uz := fun i => b8.frozen i; have HB8 := Lib.hid b8; have HO8 := Lib.hid O8; have HT8 := Lib.hid t8; clear _t OA b8 O8 t8))
    have R8 := R5.out.add O5.out HT8.out HO8.out
    have K8 := K5.out.out HT8.out (R5.out.oa.ne_block K5.out (by decide))
    have K9 := Lib.hid (K8.far (p := ⟨w.heap.size, 6, none⟩) (by simp) (.slice A8 (es.length + 1) c8))
    have R9 := Lib.hid (R8.far HB8.out ((TurnsIn.refl (fun b => b = w.heap.size) w8).setCell (p := ⟨w.heap.size, 6, none⟩) (.inl rfl) (.slice A8 (es.length + 1) c8)))
    have T9 := Lib.hid ((T5.out.trans HT8.out).then_ ((TurnsIn.refl (fun x => x = w.heap.size) w8).setCell (p := ⟨w.heap.size, 6, none⟩) (.inl rfl) (.slice A8 (es.length + 1) c8)) (by omega))
    clear K8 R8
    go_wp2_with (have _t := K9.out; refine wpList_store_blk (cs := zS.toArray) rfl _ _ _ rfl (ds := [.int .i64 p.c0, .int .i64 p.c1, .int .i64 p.c2, .slice As ns cs, .slice Ai ni ci, .int .i64 p.v, .slice A8 (es.length + 1) c8, .bool p.b, .int .i64 (ln + 1), .int .i64 e0]) (by exact K9.out) rfl rfl rfl (by kernel_rfl) (by intro u hu; simp only [List.mem_cons, List.mem_nil_iff, or_false] at hu; rcases hu with rfl | rfl | rfl | rfl | rfl | rfl | rfl | rfl | rfl | rfl <;> rfl) ?_; clear _t; intro w7 X7 g7)
    have r0 : w7.cell? ⟨w.heap.size + 1, 0, none⟩ = some (.int .i64 p.c0) := X7.cell 0
    have r1 : w7.cell? ⟨w.heap.size + 1, 1, none⟩ = some (.int .i64 p.c1) := X7.cell 1
    have r2 : w7.cell? ⟨w.heap.size + 1, 2, none⟩ = some (.int .i64 p.c2) := X7.cell 2
    have r3 : w7.cell? ⟨w.heap.size + 1, 3, none⟩ = some (.slice As ns cs) := X7.cell 3
    have r4 : w7.cell? ⟨w.heap.size + 1, 4, none⟩ = some (.slice Ai ni ci) := X7.cell 4
    have r5 : w7.cell? ⟨w.heap.size + 1, 5, none⟩ = some (.int .i64 p.v) := X7.cell 5
    have r6 : w7.cell? ⟨w.heap.size + 1, 6, none⟩ = some (.slice A8 (es.length + 1) c8) := X7.cell 6
    have r7 : w7.cell? ⟨w.heap.size + 1, 7, none⟩ = some (.bool p.b) := X7.cell 7
    have r8 : w7.cell? ⟨w.heap.size + 1, 8, none⟩ = some (.int .i64 (ln + 1)) := X7.cell 8
    have r9 : w7.cell? ⟨w.heap.size + 1, 9, none⟩ = some (.int .i64 e0) := X7.cell 9
    refine bodyPost_ret (v := .agg #[.int .i64 p.c0, .int .i64 p.c1, .int .i64 p.c2, .slice As ns cs, .slice Ai ni ci, .int .i64 p.v, .slice A8 (es.length + 1) c8, .bool p.b, .int .i64 (ln + 1), .int .i64 e0]) ?_ rfl ?_
    · simp [results, Try.results21, go_sem, r0, r1, r2, r3, r4, r5, r6, r7, r8, r9]
    · have tg := TurnsIn.ofGrown (S := fun x => x = w.heap.size + 1) g7 (fun b hb => by injection hb with hb; exact hb.symm)
      have t7 := (T9.out).then_ tg (by omega)
      unfold OneQ
      rw [HE.out]
      exact ⟨t7, As, ns, cs, Ai, ni, ci, A8, es.length + 1, c8, _, rfl, R9.out.far K9.out tg⟩
end Go.Proofs.Ytngeemfcmoahoaa.Tv
