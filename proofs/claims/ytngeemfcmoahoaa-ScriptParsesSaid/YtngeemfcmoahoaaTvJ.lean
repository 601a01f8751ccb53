/-
  Layer 30, a line, as the program takes it: its contract. Conditions: as each theorem names.
-/
import Derived.Test.YtngeemfcmoahoaaTvI
import Derived.Test.YtngeemfcmoahoaaTvE
import Derived.Deep.Cut
namespace Go.Proofs.Ytngeemfcmoahoaa.Tv
open Go.ChangeShapes Go.WideShapes Go.ChangeAt Go.RowKit Go.Proofs.Ytngeemfcmoahoaa.Kit Go.Proofs.Ytngeemfcmoahoaa.Tx Go.Proofs.Ytngeemfcmoahoaa.Ty Go.Proofs.Ytngeemfcmoahoaa.Tz

/-- What a line comes to. -/
def lineR (p : PS) (t : List Int) (b : Bool) : Except Int PS := if b = false then .error 22 else lineL p t
def LineQ (B g : Nat) (p : PS) (t : List Int) (b : Bool) (va : Value) (w : World) (e : Ending) (w' : World) : Prop :=
  TurnsIn (fun x => x = g ∨ va.ownBlock = some x) w w' ∧ match lineR p t b with
  | .error n => e = .returned (.int .i64 n)
  | .ok q => e = .returned (.int .i64 0) ∧ ∃ vs vi va' es, PAt w' B g q vs vi va' es ∧ Newer w va va'
theorem LineQ.no {B g : Nat} {p : PS} {t : List Int} {b : Bool} {va : Value} {w w' : World} {n : Int} (h : lineR p t b = .error n) (ht : TurnsIn (fun x => x = g ∨ va.ownBlock = some x) w w') : LineQ B g p t b va w (.returned (.int .i64 n)) w' := by
  unfold LineQ
  rw [h]
  exact ⟨ht, rfl⟩
theorem LineQ.yes {B g : Nat} {p q : PS} {t : List Int} {b : Bool} {va : Value} {w w' : World} (h : lineR p t b = .ok q) (ht : TurnsIn (fun x => x = g ∨ va.ownBlock = some x) w w') {vs vi va' : Value} {es : List (ActV × Value)} (hp : PAt w' B g q vs vi va' es) (hn : Newer w va va') : LineQ B g p t b va w (.returned (.int .i64 0)) w' := by
  unfold LineQ
  rw [h]
  exact ⟨ht, rfl, _, _, _, _, hp, hn⟩
theorem PAt.add {w5 w6 : World} {B g : Nat} {p : PS} {vs vi va v6 u : Value} {es : List (ActV × Value)} {a : ActV} (h : PAt w5 B g p vs vi va es) (ou : Own w5 B 5 .u8 u a.d) (t6 : TurnsIn (fun b => va.ownBlock = some b) w5 w6) (O6 : OwnE w6 B v6 (es ++ [(a, u)])) :
    PAt (w6.setCell ⟨g, 7, none⟩ v6) B g { p with al := p.al ++ [a] } vs vi v6 (es ++ [(a, u)]) := by
  have b6 := h.blk.out t6 (h.oa.ne_block h.blk (by decide))
  have keep : ∀ (o : Value) (xs : List Int), Own w5 B 5 .u8 o xs → Own (w6.setCell ⟨g, 7, none⟩ v6) B 5 .u8 o xs := fun o xs ho => by
    have h1 := ho.out t6 (fun x hx he => by
      obtain ⟨cs, hc⟩ := own_block ho hx
      obtain ⟨ds, hd⟩ := h.oa.block he
      exact absurd (block_type hc hd) (by decide))
    exact h1.out ((TurnsIn.refl (fun b => b = g) w6).setCell (p := ⟨g, 7, none⟩) (.inl rfl) v6) (fun x hx he => h1.ne_block b6 (by decide) (by rw [hx, he]))
  refine ⟨b6.set_ 7 v6, keep _ _ h.os, keep _ _ h.oi, O6.out ((TurnsIn.refl (fun b => b = g) w6).setCell (p := ⟨g, 7, none⟩) (.inl rfl) v6) (fun x hx he => O6.ne_block b6 (by decide) (by rw [hx, he])), ?_, fun x hx => ?_⟩
  · rw [List.map_append, h.al]; rfl
  · rcases List.mem_append.1 hx with hx | hx
    · exact keep _ _ (h.ds x hx)
    · obtain rfl : x = (a, u) := by simpa using hx
      exact keep _ _ ou
theorem step_append_act {w : World} {B : Nat} {v : Value} {es : List (ActV × Value)} {ops : Array Oper} {o : Oper} {a : Act} {K : Act → World → Prop} {Q : Exit → Act → World → Prop} {E : Prop} (hg : o.guard = none) (s x : Operand)
    (ho : o.op = Op.call { callee := Callee.builtin Builtin.append, args := #[s, x], argTypes := #[31, 31] })
    (q : ActV) (A : Option Addr) (n m : Nat) (hown : OwnE w B v es) (hs : a.eval s = v) {c : Nat} (hx : a.eval x = .slice (some ⟨w.heap.size, 0, none⟩) 1 c) (hsz : es.length ≤ 1000000) (hbase : B ≤ w.heap.size)
    (hK : ∀ A' c' w', OwnE w' B (.slice A' (es.length + 1) c') (es ++ [(q, .slice A n m)]) → TurnsIn (fun b => v.ownBlock = some b) w w' → Newer w v (.slice A' (es.length + 1) c') → K (a.put o.dst (.slice A' (es.length + 1) c')) w') :
    if Region.wanted o (yielded ops a.tmps) = true then Oper.wp Try.prog o a (w.alloc (.cells #[.int .u8 q.k, .int .u8 q.m, .int .i64 q.p, .int .i64 q.n, .int .u64 q.v, .slice A n m] 40)) K Q else E := by
  have hw : Region.wanted o (yielded ops a.tmps) = true := by simp [Region.wanted, hg]
  rw [if_pos hw]
  obtain ⟨A', c', w', hrun, h2, h3, h4⟩ := run_append_act hown q A n m c hsz hbase o.type
  have hrun' : (Builtin.append_ #[31, 31] o.type #[v, .slice (some ⟨w.heap.size, 0, none⟩) 1 c]).run Try.prog (w.alloc (.cells #[.int .u8 q.k, .int .u8 q.m, .int .i64 q.p, .int .i64 q.n, .int .u64 q.v, .slice A n m] 40)) = .ok (.slice A' (es.length + 1) c') w' := hrun
  unfold Oper.wp
  simp [execOp, ho, resolve, invoke, builtin, hs, hx, hrun', Result.andThen]
  exact hK _ _ _ h2 h3 h4
theorem ActP.ok {g : Nat} {ws : List (List Int)} {k : Int} {w w' : World} {e : Ending} {a : ActV} (h : ActP g ws k w e w') (ha : actG ws k = some a) : TurnsIn (fun b => b = g) w w' ∧ ∃ A c, e = .returned (actV a (.slice A a.d.length c)) ∧ Own w' w.heap.size 5 .u8 (.slice A a.d.length c) a.d := by
  unfold ActP at h
  rw [ha] at h
  obtain ⟨h1, v, h2, h3⟩ := h
  obtain ⟨A, c, rfl, _, _, _⟩ := h3.opened
  exact ⟨h1, A, c, h2, h3⟩
/-- A post that no panic meets. -/
def NoPan (Q : Exit → Act → World → Prop) : Exit → Act → World → Prop
  | .panic _, _, _ => False
  | e, a, w => Q e a w
theorem NoPan.to {Q : Exit → Act → World → Prop} : ∀ (e : Exit) (a : Act) (w : World), NoPan Q e a w → Q e a w
  | .panic _, _, _, h => h.elim
  | .normal, _, _, h => h
  | .ret, _, _, h => h
  | .exit _, _, _, h => h
  | .goto _, _, _, h => h
  | .outgrown, _, _, h => h
theorem leaves_same {fn : Func} {t1 t2 : Array Value} {R : Ending → World → Prop} (h : results fn t1 = results fn t2) : ∀ (ds : List Deferred) (u : FrameMode) (w : World), Leaves Try.prog fn t1 R ds u w → Leaves Try.prog fn t2 R ds u w
  | [], .returning, w, hl => by
    obtain ⟨v, h1, h2⟩ := hl
    exact ⟨v, by rw [← h]; exact h1, h2⟩
  | [], .panicking _, _, hl => hl
  | [], .run, _, hl => hl.elim
  | d :: ds, u, w, hl => by
    obtain ⟨hu, fv, cap, f, args, h1, h2, h3⟩ := hl
    refine ⟨hu, fv, cap, f, args, h1, h2, h3.mono ?_⟩
    intro e u' w' h4
    cases e with
    | returned v => exact leaves_same h ds _ _ h4
    | panicked c => exact leaves_same h ds _ _ h4
    | outgrown => exact h4
theorem panic_put {R : Ending → World → Prop} {i : Nat} {v : Value} (hi : i ≠ 4) (c : List PanicEntry) (a : Act) (w : World) (h : bodyPostD Try.prog Try.f20 R (.panic c) (a.put (some i) v) w) : bodyPostD Try.prog Try.f20 R (.panic c) a w := by
  refine leaves_same ?_ _ _ _ h
  unfold results
  rw [Try.results20]
  simp [Act.put, Array.getElem?_setIfInBounds_ne hi]
theorem PAt.far {w w' : World} {B g q : Nat} {T : TypeId} {cs : Array Value} {p : PS} {vs vi va : Value} {es : List (ActV × Value)} (h : PAt w B g p vs vi va es) (hq : Block w q T cs) (t : TurnsIn (fun b => b = q) w w') (hT : T ≠ 56 ∧ T ≠ 40 ∧ T ≠ 5 := by decide) : PAt w' B g p vs vi va es :=
  h.out t (fun e => hT.1 (by subst e; exact block_type hq h.blk)) (fun x hx e => h.oa.ne_block hq (Ne.symm hT.2.1) (by rw [hx, e])) (fun x cs hx e => hT.2.2 (by subst e; exact block_type hq hx))
theorem ws_pos (cs : List Int) : 0 < (wordsL cs).length := List.length_pos_iff.2 (wordsL_ne cs)
theorem ws_oct {cs : List Int} (h : Octets cs) (hl : cs.length ≤ 1000000) : ∀ v ∈ wordsL cs, Octets v ∧ v.length ≤ 1000000 := fun v hv => by
  obtain ⟨h1, h2⟩ := wordsL_mem cs v hv
  exact ⟨fun x hx => h x (h1 x hx).1, Nat.le_trans h2 hl⟩

set_option maxRecDepth 100000 in
set_option maxHeartbeats 12800000 in
theorem line_any (B g : Nat) (p : PS) (vs vi va : Value) (es : List (ActV × Value)) (s : ByteArray) (b : Bool) (w : World) (hs : s.size ≤ 1000000) (hn : es.length ≤ 1000000) (hB : B ≤ w.heap.size) (hP : PAt w B g p vs vi va es) :
    Calls Try.prog 20 #[.pointer (some ⟨g, 0, none⟩), .agg #[.string s, .bool b]] w (LineQ B g p (numsOf s) b va w) := by
  have hg := hP.blk.lt
  obtain ⟨w1, hw1⟩ : ∃ w1, (w.alloc (.cells #[.string s, .bool b] 61)).alloc (.cells #[.int .i64 0] 32) = w1 := ⟨_, rfl⟩
  have s1 : w1.heap.size = w.heap.size + 2 := by rw [← hw1]; simp
  have t1 : TurnsIn (fun x => x = g ∨ va.ownBlock = some x) w w1 := by rw [← hw1]; exact ((TurnsIn.refl _ w).alloc _).alloc _
  have l1 : Block w1 w.heap.size 61 #[.string s, .bool b] := by rw [← hw1]; exact (Block.new w _ _).alloc _
  have q1 : Block w1 (w.heap.size + 1) 32 #[.int .i64 0] := by
    rw [← hw1]
    have := Block.new (w.alloc (.cells #[.string s, .bool b] 61)) 32 #[.int .i64 0]
    rwa [World.size_alloc] at this
  have p1 : PAt w1 B g p vs vi va es := hP.out ((TurnsIn.refl (fun _ => False) w).alloc (.cells #[.string s, .bool b] 61) |>.alloc (.cells #[.int .i64 0] 32) |> (fun h => by rw [hw1] at h; exact h)) (fun h => h) (fun _ _ h => h) (fun _ _ _ h => h)
  have HW1 := Lib.hid hw1
  have S1 := Lib.hid s1
  have T1 := Lib.hid t1
  have Q1 := Lib.hid q1
  have P1 := Lib.hid p1
  have hmf : ∀ (fn : Fn) (first cap : Array Value) (w : World), (Instr.makeFunc fn first cap).run Try.prog w = .ok (.func fn first cap) w := fun _ _ _ _ => rfl
  have y0 : w1.cell? ⟨w.heap.size, 0, none⟩ = some (.string s) := (l1.cell 0).trans rfl
  have y1 : w1.cell? ⟨w.heap.size, 1, none⟩ = some (.bool b) := (l1.cell 1).trans rfl
  have r0 : w1.cell? ⟨w.heap.size + 1, 0, none⟩ = some (.int .i64 0) := (q1.cell 0).trans rfl
  have rz := q1.frozen 0
  have HL1 := Lib.hid l1
  clear s1 t1 q1 p1 hw1 l1
  cases b with
  | false =>
    have HF := Lib.hid (show lineR p (numsOf s) false = .error 22 by unfold lineR; rw [if_pos rfl])
    go_enter_defers Try.func20, Try.ntmps20
    go_wp2_with fail
    have HW := HW1.out
    first | rw [HW] | skip
    refine leaves_cons (f := 29) (args := #[.pointer (some ⟨w.heap.size + 1, 0, none⟩)]) (by simp) (by simp [go_sem]) ?_
    refine (catchL_noEnd (w.heap.size + 1) (.int .i64 0) [] w1 Q1.out).mono ?_
    rintro e u' w9 ⟨rfl, rfl, g0, t9⟩
    have c0 : w9.cell? ⟨w.heap.size + 1, 0, none⟩ = some (.int .i64 22) := (g0.cell 0).trans rfl
    exact ⟨.int .i64 22, by simp [results, Try.results20, go_sem, c0], LineQ.no HF.out ((T1.out).then_ t9 (by omega))⟩
  | true =>
    by_cases h0 : s.size = 0
    · obtain rfl := str_nil h0
      have HF := Lib.hid (show lineR p (numsOf ⟨#[]⟩) true = .ok p by unfold lineR lineL; rw [if_neg (by decide), if_pos (.inl rfl)])
      have s0 : ((⟨#[]⟩ : ByteArray).toList == []) = true := by rw [ByteArray.toList_eq]; rfl
      clear h0
      go_enter_defers Try.func20, Try.ntmps20
      go_upto_region 2 with (fail)
      rw [HW1.out]
      go_wp2_with fail
      refine leaves_cons (f := 29) (args := #[.pointer (some ⟨w.heap.size + 1, 0, none⟩)]) (by simp) (by simp [go_sem]) ?_
      refine (catchL_idle ⟨w.heap.size + 1, 0, none⟩ _).mono ?_
      rintro e u' w9 ⟨rfl, rfl, hw9⟩
      subst hw9
      have g0 := (Q1.out).set_ 0 (.int .i64 0)
      have c0 := (g0.cell 0).trans (show _ = some (Value.int .i64 0) from rfl)
      exact ⟨.int .i64 0, by simp [results, Try.results20, go_sem, c0], LineQ.yes HF.out ((T1.out).then_ ((TurnsIn.refl (fun x => x = w.heap.size + 1) _).setCell (p := ⟨w.heap.size + 1, 0, none⟩) (.inl rfl) (.int .i64 0)) (by omega)) ((P1.out).far (Q1.out) ((TurnsIn.refl (fun x => x = w.heap.size + 1) _).setCell (p := ⟨w.heap.size + 1, 0, none⟩) (.inl rfl) (.int .i64 0))) (Newer.refl _ _)⟩
    obtain ⟨e0, e1⟩ := str_ne h0
    have hsz : 0 < s.size := by omega
    have hne : numsOf s ≠ [] := by intro h; have := numsOf_length s; rw [h] at this; simp at this; omega
    have hc0 := numsOf_get s 0 hsz
    by_cases h35 : s[0].toNat = 35
    · have HF := Lib.hid (show lineR p (numsOf s) true = .ok p by unfold lineR lineL; rw [if_neg (by decide), if_pos (.inr (by rw [hc0, h35]; rfl))])
      have d4 : (((s[0].toNat : Nat) : Int) == 35) = true := by rw [beq_iff_eq]; omega
      clear h0 hne hc0 h35
      go_enter_defers Try.func20, Try.ntmps20
      go_upto_region 2 with (fail)
      rw [HW1.out]
      go_wp2_with fail
      refine leaves_cons (f := 29) (args := #[.pointer (some ⟨w.heap.size + 1, 0, none⟩)]) (by simp) (by simp [go_sem]) ?_
      refine (catchL_idle ⟨w.heap.size + 1, 0, none⟩ _).mono ?_
      rintro e u' w9 ⟨rfl, rfl, hw9⟩
      subst hw9
      have g0 := (Q1.out).set_ 0 (.int .i64 0)
      have c0 := (g0.cell 0).trans (show _ = some (Value.int .i64 0) from rfl)
      exact ⟨.int .i64 0, by simp [results, Try.results20, go_sem, c0], LineQ.yes HF.out ((T1.out).then_ ((TurnsIn.refl (fun x => x = w.heap.size + 1) _).setCell (p := ⟨w.heap.size + 1, 0, none⟩) (.inl rfl) (.int .i64 0)) (by omega)) ((P1.out).far (Q1.out) ((TurnsIn.refl (fun x => x = w.heap.size + 1) _).setCell (p := ⟨w.heap.size + 1, 0, none⟩) (.inl rfl) (.int .i64 0))) (Newer.refl _ _)⟩
    have d4 : (((s[0].toNat : Nat) : Int) == 35) = false := by rw [beq_eq_false_iff_ne]; omega
    have HLR := Lib.hid (show lineR p (numsOf s) true = if p.b = false then beginP p (wordsL (numsOf s)) else match actL (numsOf s) with
        | .error e => .error e
        | .ok a => .ok { p with al := p.al ++ [a] } by
      unfold lineR lineL
      rw [if_neg (by decide), if_neg (fun h => h.elim hne (fun h => h35 (by rw [hc0] at h; omega)))]
      rfl)
    have HO := Lib.hid (ws_oct (numsOf_octets s) (by rw [numsOf_length]; exact hs))
    have HWP := Lib.hid (ws_pos (numsOf s))
    have HWL := Lib.hid (show (wordsL (numsOf s)).length ≤ 1000001 by have := wordsL_length (numsOf s); rw [numsOf_length] at this; omega)
    have GS := Lib.hid (split_any s w1 hs)
    have HACT := Lib.hid (actL_is (numsOf s))
    obtain ⟨ws, hws⟩ : ∃ ws, wordsL (numsOf s) = ws := ⟨_, rfl⟩
    unfold SplitTo at GS
    rw [hws] at HLR HO HWP HWL GS HACT
    rw [S1.out] at GS
    have GT := Lib.hid (fun W (h : WordsAt W (w.heap.size + 2) ws 0) => take_ok (w.heap.size + 2) 0 ws W h HWP.out (by omega))
    obtain ⟨fw, hfw⟩ : ∃ fw, strOfNums (ws.getD 0 []) = fw := ⟨_, rfl⟩
    have HNF := Lib.hid (show numsOf fw = ws.getD 0 [] by rw [← hfw]; exact nums_str (octets_mem HO.out 0).1)
    rw [hfw] at GT
    clear h0 hne hc0 h35 hws hfw
    by_cases hb : p.b = false
    · have HLR2 := Lib.hid (show lineR p (numsOf s) true = beginP p ws by rw [HLR.out, if_pos hb])
      by_cases hwd : numsOf fw = worldW
      · have HBE := Lib.hid (show lineR p (numsOf s) true = match fieldsL ws worldF with
          | none => .error 3
          | some (ns, ts) => .ok ⟨true, ns.getD 0 0, ns.getD 1 0, ns.getD 2 0, ts.getD 0 [], ts.getD 1 [], ns.getD 3 0, p.al⟩ by
          rw [HLR2.out]; unfold beginP; rw [if_pos (by rw [← HNF.out]; exact hwd)]; rfl)
        have f0 : (fw.toList == [119, 111, 114, 108, 100]) = true := toList_yes hwd
        cases hfl : fieldsL ws worldF with
        | none =>
          have HF := Lib.hid (show lineR p (numsOf s) true = .error 3 by rw [HBE.out, hfl])
          go_enter_defers Try.func20, Try.ntmps20
          go_upto_region 2 with (fail)
          rw [HW1.out]
          go_wp2_with fail
          refine GS.out.mono ?_
          rintro e w2 ⟨rfl, hwd2, hb2⟩
          have T2 := Lib.hid (show TurnsIn (fun x => x = g ∨ va.ownBlock = some x) w w2 from T1.out.trans (.ofNew (by rw [S1.out]; exact hb2)))
          have Q2 := Lib.hid (Q1.out.below hb2 (by omega))
          have P2 := Lib.hid (P1.out.out (S := fun _ => False) (.ofNew (by rw [S1.out]; exact hb2)) (fun h => h) (fun _ _ h => h) (fun _ _ _ h => h))
          have HWD2 := Lib.hid hwd2
          clear hwd2 hb2
          go_wp2_with fail
          refine (GT.out _ HWD2.out).mono ?_
          rintro e w3 ⟨rfl, hk⟩
          have HWD3 := Lib.hid (took_words HWD2.out hk)
          have hk3 := took_turns hk
          have T3 := Lib.hid (T2.out.then_ hk3 (by omega))
          have Q3 := Lib.hid (Q2.out.out hk3 (by omega))
          have P3 := Lib.hid (P2.out.far HWD2.out hk3)
          clear hk3 hk
          have pb := (P3.out.blk.cell 0).trans (show _ = some (Value.bool p.b) from rfl)
          rw [hb] at pb
          go_wp2_with fail
          have hob := P3.out.os.opened
          obtain ⟨A5, c5, hv5, _, _, _⟩ := hob
          have hoi := P3.out.oi.opened
          obtain ⟨A6, c6, hv6, _, _, _⟩ := hoi
          have hoa := P3.out.oa.opened
          obtain ⟨A7, c7, hv7, _, _⟩ := hoa
          have GW := world_any (w.heap.size + 2) g ws p.b p.c0 p.c1 p.c2 p.v A5 A6 A7 p.sd.length c5 p.im.length c6 es.length c7 w3 HO.out (by omega) HWD3.out (by have := P3.out.blk; rw [hv5, hv6, hv7] at this; exact this)
          rw [← hv7] at GW
          clear hv5 hv6 hv7
          have GW2 : Calls Try.prog 34 #[.pointer (some ⟨g, 0, none⟩), .pointer (some ⟨w.heap.size + 2, 0, none⟩)] w3 fun e w' => e = thrownF ∧ TurnsIn (fun b => b = w.heap.size + 2 ∨ b = g) w3 w' := GW.mono fun e w' h => by
            unfold WorldQ at h
            rw [hfl] at h
            exact ⟨h.2, h.1⟩
          unfold thrownF at GW2
          refine GW2.mono ?_
          rintro e w4 ⟨rfl, ht4⟩
          have T4 := Lib.hid (T3.out.then_ ht4 (fun b hb h => by rcases h with h | h; exact absurd h (by omega); exact .inl h))
          have Q4 := Lib.hid (Q3.out.out ht4 (by omega))
          go_wp2_with fail
          refine leaves_cons (f := 29) (args := #[.pointer (some ⟨w.heap.size + 1, 0, none⟩)]) (by simp) (by simp [go_sem]) ?_
          refine (catchL_noForm (w.heap.size + 1) (.int .i64 0) [] w4 Q4.out).mono ?_
          rintro e u' w9 ⟨rfl, rfl, g0, t9⟩
          have c0 : w9.cell? ⟨w.heap.size + 1, 0, none⟩ = some (.int .i64 3) := (g0.cell 0).trans rfl
          exact ⟨.int .i64 3, by simp [results, Try.results20, go_sem, c0], LineQ.no HF.out ((T4.out).then_ t9 (by omega))⟩
        | some q =>
          obtain ⟨ns, ts⟩ := q
          have HF := Lib.hid (show lineR p (numsOf s) true = .ok ⟨true, ns.getD 0 0, ns.getD 1 0, ns.getD 2 0, ts.getD 0 [], ts.getD 1 [], ns.getD 3 0, p.al⟩ by rw [HBE.out, hfl])
          go_enter_defers Try.func20, Try.ntmps20
          go_upto_region 2 with (fail)
          rw [HW1.out]
          go_wp2_with fail
          refine GS.out.mono ?_
          rintro e w2 ⟨rfl, hwd2, hb2⟩
          have T2 := Lib.hid (show TurnsIn (fun x => x = g ∨ va.ownBlock = some x) w w2 from T1.out.trans (.ofNew (by rw [S1.out]; exact hb2)))
          have Q2 := Lib.hid (Q1.out.below hb2 (by omega))
          have P2 := Lib.hid (P1.out.out (S := fun _ => False) (.ofNew (by rw [S1.out]; exact hb2)) (fun h => h) (fun _ _ h => h) (fun _ _ _ h => h))
          have HWD2 := Lib.hid hwd2
          clear hwd2 hb2
          go_wp2_with fail
          refine (GT.out _ HWD2.out).mono ?_
          rintro e w3 ⟨rfl, hk⟩
          have HWD3 := Lib.hid (took_words HWD2.out hk)
          have hk3 := took_turns hk
          have T3 := Lib.hid (T2.out.then_ hk3 (by omega))
          have Q3 := Lib.hid (Q2.out.out hk3 (by omega))
          have P3 := Lib.hid (P2.out.far HWD2.out hk3)
          clear hk3 hk
          have pb := (P3.out.blk.cell 0).trans (show _ = some (Value.bool p.b) from rfl)
          rw [hb] at pb
          go_wp2_with fail
          have hob := P3.out.os.opened
          obtain ⟨A5, c5, hv5, _, _, _⟩ := hob
          have hoi := P3.out.oi.opened
          obtain ⟨A6, c6, hv6, _, _, _⟩ := hoi
          have hoa := P3.out.oa.opened
          obtain ⟨A7, c7, hv7, _, _⟩ := hoa
          have GW := world_any (w.heap.size + 2) g ws p.b p.c0 p.c1 p.c2 p.v A5 A6 A7 p.sd.length c5 p.im.length c6 es.length c7 w3 HO.out (by omega) HWD3.out (by have := P3.out.blk; rw [hv5, hv6, hv7] at this; exact this)
          rw [← hv7] at GW
          clear hv5 hv6 hv7
          have GW2 : Calls Try.prog 34 #[.pointer (some ⟨g, 0, none⟩), .pointer (some ⟨w.heap.size + 2, 0, none⟩)] w3 fun e w' => e = .returned (.tuple #[]) ∧ TurnsIn (fun b => b = w.heap.size + 2 ∨ b = g) w3 w' ∧ ∃ vs vi, Block w' g 56 (cellsP true (ns.getD 0 0) (ns.getD 1 0) (ns.getD 2 0) vs vi (ns.getD 3 0) va) ∧ Own w' w3.heap.size 5 .u8 vs (ts.getD 0 []) ∧ Own w' w3.heap.size 5 .u8 vi (ts.getD 1 []) := GW.mono fun e w' h => by
            unfold WorldQ at h
            rw [hfl] at h
            exact ⟨h.2.1, h.1, h.2.2⟩
          clear GW
          refine GW2.mono ?_
          rintro e w4 ⟨rfl, ht4, vs4, vi4, hb4, hs4, hi4⟩
          have T4 := Lib.hid (T3.out.then_ ht4 (fun b hb h => by rcases h with h | h; exact absurd h (by omega); exact .inl h))
          have Q4 := Lib.hid (Q3.out.out ht4 (by omega))
          have P4 := Lib.hid (show PAt w4 B g ⟨true, ns.getD 0 0, ns.getD 1 0, ns.getD 2 0, ts.getD 0 [], ts.getD 1 [], ns.getD 3 0, p.al⟩ vs4 vi4 va es from
            ⟨hb4, hs4.mono (Nat.le_trans hB T3.out.size), hi4.mono (Nat.le_trans hB T3.out.size), P3.out.oa.out ht4 (fun x hx h => by
              rcases h with h | h
              · exact P3.out.oa.ne_block HWD3.out (by decide) (by rw [hx, h])
              · exact P3.out.oa.ne_block P3.out.blk (by decide) (by rw [hx, h])), P3.out.al, fun x hx => (P3.out.ds x hx).out ht4 (fun y hy h => by
              rcases h with h | h
              · exact (P3.out.ds x hx).ne_block HWD3.out (by decide) (by rw [hy, h])
              · exact (P3.out.ds x hx).ne_block P3.out.blk (by decide) (by rw [hy, h]))⟩)
          have r4 : w4.cell? ⟨w.heap.size + 1, 0, none⟩ = some (.int .i64 0) := (Q4.out.cell 0).trans rfl
          have z4 := Q4.out.frozen 0
          clear hb4 hs4 hi4 ht4 y0 y1 r0 rz
          go_wp2_with fail
          refine leaves_cons (f := 29) (args := #[.pointer (some ⟨w.heap.size + 1, 0, none⟩)]) (by simp) (by simp [go_sem]) ?_
          refine (catchL_idle ⟨w.heap.size + 1, 0, none⟩ _).mono ?_
          rintro e u' w9 ⟨rfl, rfl, hw9⟩
          subst hw9
          have g0 := (Q4.out).set_ 0 (.int .i64 0)
          have c0 := (g0.cell 0).trans (show _ = some (Value.int .i64 0) from rfl)
          exact ⟨.int .i64 0, by simp [results, Try.results20, go_sem, c0], LineQ.yes HF.out ((T4.out).then_ ((TurnsIn.refl (fun x => x = w.heap.size + 1) _).setCell (p := ⟨w.heap.size + 1, 0, none⟩) (.inl rfl) (.int .i64 0)) (by omega)) ((P4.out).far (Q4.out) ((TurnsIn.refl (fun x => x = w.heap.size + 1) _).setCell (p := ⟨w.heap.size + 1, 0, none⟩) (.inl rfl) (.int .i64 0))) (Newer.refl _ _)⟩
      · have HF := Lib.hid (show lineR p (numsOf s) true = .error 21 by rw [HLR2.out]; unfold beginP; rw [if_neg (by rw [← HNF.out]; exact hwd)])
        have f0 : (fw.toList == [119, 111, 114, 108, 100]) = false := toList_ne hwd
        go_enter_defers Try.func20, Try.ntmps20
        go_upto_region 2 with (fail)
        rw [HW1.out]
        go_wp2_with fail
        refine GS.out.mono ?_
        rintro e w2 ⟨rfl, hwd2, hb2⟩
        have T2 := Lib.hid (show TurnsIn (fun x => x = g ∨ va.ownBlock = some x) w w2 from T1.out.trans (.ofNew (by rw [S1.out]; exact hb2)))
        have Q2 := Lib.hid (Q1.out.below hb2 (by omega))
        have P2 := Lib.hid (P1.out.out (S := fun _ => False) (.ofNew (by rw [S1.out]; exact hb2)) (fun h => h) (fun _ _ h => h) (fun _ _ _ h => h))
        have HWD2 := Lib.hid hwd2
        clear hwd2 hb2
        go_wp2_with fail
        refine (GT.out _ HWD2.out).mono ?_
        rintro e w3 ⟨rfl, hk⟩
        have HWD3 := Lib.hid (took_words HWD2.out hk)
        have hk3 := took_turns hk
        have T3 := Lib.hid (T2.out.then_ hk3 (by omega))
        have Q3 := Lib.hid (Q2.out.out hk3 (by omega))
        have P3 := Lib.hid (P2.out.far HWD2.out hk3)
        clear hk3 hk
        have pb := (P3.out.blk.cell 0).trans (show _ = some (Value.bool p.b) from rfl)
        rw [hb] at pb
        go_wp2_with fail
        refine leaves_cons (f := 29) (args := #[.pointer (some ⟨w.heap.size + 1, 0, none⟩)]) (by simp) (by simp [go_sem]) ?_
        refine (catchL_noKind (w.heap.size + 1) (.int .i64 0) [] w3 Q3.out).mono ?_
        rintro e u' w9 ⟨rfl, rfl, g0, t9⟩
        have c0 : w9.cell? ⟨w.heap.size + 1, 0, none⟩ = some (.int .i64 21) := (g0.cell 0).trans rfl
        exact ⟨.int .i64 21, by simp [results, Try.results20, go_sem, c0], LineQ.no HF.out ((T3.out).then_ t9 (by omega))⟩
    have hbt : p.b = true := by cases h : p.b with | true => rfl | false => exact absurd h hb
    have HAC := Lib.hid (show lineR p (numsOf s) true = match formL (numsOf fw) with
        | none => .error 21
        | some (_, k) => match actG ws k with
          | none => .error 3
          | some a => .ok { p with al := p.al ++ [a] } by
      rw [HLR.out, if_neg hb, HACT.out, HNF.out]
      cases formL (ws.getD 0 []) with
      | none => rfl
      | some q => obtain ⟨f, k⟩ := q; simp only []; cases actG ws k <;> rfl)
    clear HLR HACT
    cases hfo : formL (numsOf fw) with
    | none =>
      have HF := Lib.hid (show lineR p (numsOf s) true = .error 21 by rw [HAC.out, hfo])
      go_enter_defers Try.func20, Try.ntmps20
      go_upto_region 2 with (fail)
      rw [HW1.out]
      go_wp2_with fail
      refine GS.out.mono ?_
      rintro e w2 ⟨rfl, hwd2, hb2⟩
      have T2 := Lib.hid (show TurnsIn (fun x => x = g ∨ va.ownBlock = some x) w w2 from T1.out.trans (.ofNew (by rw [S1.out]; exact hb2)))
      have Q2 := Lib.hid (Q1.out.below hb2 (by omega))
      have P2 := Lib.hid (P1.out.out (S := fun _ => False) (.ofNew (by rw [S1.out]; exact hb2)) (fun h => h) (fun _ _ h => h) (fun _ _ _ h => h))
      have HWD2 := Lib.hid hwd2
      clear hwd2 hb2
      go_wp2_with fail
      refine (GT.out _ HWD2.out).mono ?_
      rintro e w3 ⟨rfl, hk⟩
      have HWD3 := Lib.hid (took_words HWD2.out hk)
      have hk3 := took_turns hk
      have T3 := Lib.hid (T2.out.then_ hk3 (by omega))
      have Q3 := Lib.hid (Q2.out.out hk3 (by omega))
      have P3 := Lib.hid (P2.out.far HWD2.out hk3)
      clear hk3 hk
      have pb := (P3.out.blk.cell 0).trans (show _ = some (Value.bool p.b) from rfl)
      rw [hbt] at pb
      have GK := kind_any fw
      unfold kindE at GK
      rw [hfo] at GK
      have HGK := Lib.hid GK
      clear GK
      go_wp2_with fail
      have hS0 : ∃ d, w3.drewN d = w3 := ⟨0, rfl⟩
      clear hS0
      refine wp_region_held_drew (S := (fun W : World => W.cell? ⟨g, 7, none⟩ = some va)) (by kernel_rfl) (by exact (P3.out.blk.cell 7).trans rfl) (fun hS => ?_)
      refine wpAnyH_take (i := 0) (oi := ⟨some 31, _, _, _, _, _⟩) (v := .pointer (some ⟨g, 0, none⟩)) rfl (by kernel_rfl) (by kernel_rfl) (by kernel_rfl) (fun c a w h => panic_put (by decide) c a w h) (Or.inl ⟨by rfl, fun W hW => by go_simp⟩) hS ?_
      try simp only [Act.put, List.setIfInBounds_toArray, List.set_cons_zero, List.set_cons_succ]
      refine wpAnyH_take (i := 1) (oi := ⟨some 32, _, _, _, _, _⟩) (v := .pointer (some ⟨g, 0, none⟩)) rfl (by kernel_rfl) (by kernel_rfl) (by kernel_rfl) (fun c a w h => panic_put (by decide) c a w h) (Or.inl ⟨by rfl, fun W hW => by go_simp⟩) hS ?_
      try simp only [Act.put, List.setIfInBounds_toArray, List.set_cons_zero, List.set_cons_succ]
      refine wpAnyH_take (i := 5) (oi := ⟨some 36, _, _, _, _, _⟩) (v := .pointer (some ⟨w.heap.size + 2, 0, none⟩)) rfl (by kernel_rfl) (by kernel_rfl) (by kernel_rfl) (fun c a w h => panic_put (by decide) c a w h) (Or.inl ⟨by rfl, fun W hW => by go_simp⟩) hS ?_
      try simp only [Act.put, List.setIfInBounds_toArray, List.set_cons_zero, List.set_cons_succ]
      refine wpAnyH_take (i := 6) (oi := ⟨some 37, _, _, _, _, _⟩) (v := .string fw) rfl (by kernel_rfl) (by kernel_rfl) (by kernel_rfl) (fun c a w h => panic_put (by decide) c a w h) (Or.inl ⟨by rfl, fun W hW => by go_simp⟩) hS ?_
      try simp only [Act.put, List.setIfInBounds_toArray, List.set_cons_zero, List.set_cons_succ]
      refine wpAnyH_take (i := 2) (oi := ⟨some 33, _, _, _, _, _⟩) (v := .pointer (some ⟨g, 0, none⟩)) rfl (by kernel_rfl) (by kernel_rfl) (by kernel_rfl) (fun c a w h => panic_put (by decide) c a w h) (Or.inl ⟨by rfl, fun W hW => by go_simp⟩) hS ?_
      try simp only [Act.put, List.setIfInBounds_toArray, List.set_cons_zero, List.set_cons_succ]
      refine wpAnyH_take (i := 3) (oi := ⟨some 34, _, _, _, _, _⟩) (v := .pointer (some ⟨g, 7, none⟩)) rfl (by kernel_rfl) (by kernel_rfl) (by kernel_rfl) (fun c a w h => panic_put (by decide) c a w h) (Or.inl ⟨by rfl, fun W hW => by go_simp⟩) hS ?_
      try simp only [Act.put, List.setIfInBounds_toArray, List.set_cons_zero, List.set_cons_succ]
      refine wpAnyH_take (i := 4) (oi := ⟨some 35, _, _, _, _, _⟩) (v := va) rfl (by kernel_rfl) (by kernel_rfl) (by kernel_rfl) (fun c a w h => panic_put (by decide) c a w h) (Or.inl ⟨by rfl, fun W hW => by go_simp⟩) hS ?_
      try simp only [Act.put, List.setIfInBounds_toArray, List.set_cons_zero, List.set_cons_succ]
      refine wpAnyH_ready (rs := [7]) (by kernel_rfl) (by simp) ?_
      refine AllReadyH.cons rfl (fun K hK => ?_) AllReadyH.nil
      go_simp
      go_at_call 33
      refine (HGK.out _).mono ?_
      rintro e w4 ⟨rfl, hw4⟩
      have T4 := Lib.hid (show TurnsIn (fun x => x = g ∨ va.ownBlock = some x) w w4 by rw [← hw4]; exact T3.out.drewN 1)
      have Q4 := Lib.hid (show Block w4 (w.heap.size + 1) 32 #[.int .i64 0] by rw [← hw4]; exact Q3.out)
      refine leaves_cons (f := 29) (args := #[.pointer (some ⟨w.heap.size + 1, 0, none⟩)]) (by simp) (by simp [go_sem]) ?_
      refine (catchL_noKind (w.heap.size + 1) (.int .i64 0) [] w4 Q4.out).mono ?_
      rintro e u' w9 ⟨rfl, rfl, g0, t9⟩
      have c0 : w9.cell? ⟨w.heap.size + 1, 0, none⟩ = some (.int .i64 21) := (g0.cell 0).trans rfl
      exact ⟨.int .i64 21, by simp [results, Try.results20, go_sem, c0], LineQ.no HF.out ((T4.out).then_ t9 (by omega))⟩
    | some fk =>
      obtain ⟨f, k⟩ := fk
      obtain ⟨_, hk1, hk2⟩ := form_of hfo
      cases hac : actG ws k with
      | none =>
        have HF := Lib.hid (show lineR p (numsOf s) true = .error 3 by rw [HAC.out, hfo]; simp only []; rw [hac])
        go_enter_defers Try.func20, Try.ntmps20
        go_upto_region 2 with (fail)
        rw [HW1.out]
        go_wp2_with fail
        refine GS.out.mono ?_
        rintro e w2 ⟨rfl, hwd2, hb2⟩
        have T2 := Lib.hid (show TurnsIn (fun x => x = g ∨ va.ownBlock = some x) w w2 from T1.out.trans (.ofNew (by rw [S1.out]; exact hb2)))
        have Q2 := Lib.hid (Q1.out.below hb2 (by omega))
        have P2 := Lib.hid (P1.out.out (S := fun _ => False) (.ofNew (by rw [S1.out]; exact hb2)) (fun h => h) (fun _ _ h => h) (fun _ _ _ h => h))
        have HWD2 := Lib.hid hwd2
        clear hwd2 hb2
        go_wp2_with fail
        refine (GT.out _ HWD2.out).mono ?_
        rintro e w3 ⟨rfl, hk⟩
        have HWD3 := Lib.hid (took_words HWD2.out hk)
        have hk3 := took_turns hk
        have T3 := Lib.hid (T2.out.then_ hk3 (by omega))
        have Q3 := Lib.hid (Q2.out.out hk3 (by omega))
        have P3 := Lib.hid (P2.out.far HWD2.out hk3)
        clear hk3 hk
        have pb := (P3.out.blk.cell 0).trans (show _ = some (Value.bool p.b) from rfl)
        rw [hbt] at pb
        have GK := kind_any fw
        unfold kindE at GK
        rw [hfo] at GK
        have HGK := Lib.hid GK
        have GA := Lib.hid (fun W (h : WordsAt W (w.heap.size + 2) ws 1) => act_any (w.heap.size + 2) ws k W ⟨hk1, hk2⟩ HWP.out HWL.out HO.out h)
        clear GK
        go_wp2_with fail
        have hS0 : ∃ d, w3.drewN d = w3 := ⟨0, rfl⟩
        clear hS0
        refine wp_region_held_drew (S := (fun W : World => W.cell? ⟨g, 7, none⟩ = some va)) (by kernel_rfl) (by exact (P3.out.blk.cell 7).trans rfl) (fun hS => ?_)
        refine wpAnyH_take (i := 0) (oi := ⟨some 31, _, _, _, _, _⟩) (v := .pointer (some ⟨g, 0, none⟩)) rfl (by kernel_rfl) (by kernel_rfl) (by kernel_rfl) (fun c a w h => panic_put (by decide) c a w h) (Or.inl ⟨by rfl, fun W hW => by go_simp⟩) hS ?_
        try simp only [Act.put, List.setIfInBounds_toArray, List.set_cons_zero, List.set_cons_succ]
        refine wpAnyH_take (i := 1) (oi := ⟨some 32, _, _, _, _, _⟩) (v := .pointer (some ⟨g, 0, none⟩)) rfl (by kernel_rfl) (by kernel_rfl) (by kernel_rfl) (fun c a w h => panic_put (by decide) c a w h) (Or.inl ⟨by rfl, fun W hW => by go_simp⟩) hS ?_
        try simp only [Act.put, List.setIfInBounds_toArray, List.set_cons_zero, List.set_cons_succ]
        refine wpAnyH_take (i := 5) (oi := ⟨some 36, _, _, _, _, _⟩) (v := .pointer (some ⟨w.heap.size + 2, 0, none⟩)) rfl (by kernel_rfl) (by kernel_rfl) (by kernel_rfl) (fun c a w h => panic_put (by decide) c a w h) (Or.inl ⟨by rfl, fun W hW => by go_simp⟩) hS ?_
        try simp only [Act.put, List.setIfInBounds_toArray, List.set_cons_zero, List.set_cons_succ]
        refine wpAnyH_take (i := 6) (oi := ⟨some 37, _, _, _, _, _⟩) (v := .string fw) rfl (by kernel_rfl) (by kernel_rfl) (by kernel_rfl) (fun c a w h => panic_put (by decide) c a w h) (Or.inl ⟨by rfl, fun W hW => by go_simp⟩) hS ?_
        try simp only [Act.put, List.setIfInBounds_toArray, List.set_cons_zero, List.set_cons_succ]
        refine wpAnyH_take (i := 2) (oi := ⟨some 33, _, _, _, _, _⟩) (v := .pointer (some ⟨g, 0, none⟩)) rfl (by kernel_rfl) (by kernel_rfl) (by kernel_rfl) (fun c a w h => panic_put (by decide) c a w h) (Or.inl ⟨by rfl, fun W hW => by go_simp⟩) hS ?_
        try simp only [Act.put, List.setIfInBounds_toArray, List.set_cons_zero, List.set_cons_succ]
        refine wpAnyH_take (i := 3) (oi := ⟨some 34, _, _, _, _, _⟩) (v := .pointer (some ⟨g, 7, none⟩)) rfl (by kernel_rfl) (by kernel_rfl) (by kernel_rfl) (fun c a w h => panic_put (by decide) c a w h) (Or.inl ⟨by rfl, fun W hW => by go_simp⟩) hS ?_
        try simp only [Act.put, List.setIfInBounds_toArray, List.set_cons_zero, List.set_cons_succ]
        refine wpAnyH_take (i := 4) (oi := ⟨some 35, _, _, _, _, _⟩) (v := va) rfl (by kernel_rfl) (by kernel_rfl) (by kernel_rfl) (fun c a w h => panic_put (by decide) c a w h) (Or.inl ⟨by rfl, fun W hW => by go_simp⟩) hS ?_
        try simp only [Act.put, List.setIfInBounds_toArray, List.set_cons_zero, List.set_cons_succ]
        refine wpAnyH_ready (rs := [7]) (by kernel_rfl) (by simp) ?_
        refine AllReadyH.cons rfl (fun K hK => ?_) AllReadyH.nil
        go_simp
        go_at_call 33
        refine (HGK.out _).mono ?_
        rintro e w4 ⟨rfl, hw4⟩
        have T4 := Lib.hid (show TurnsIn (fun x => x = g ∨ va.ownBlock = some x) w w4 by rw [← hw4]; exact T3.out.drewN 1)
        have Q4 := Lib.hid (show Block w4 (w.heap.size + 1) 32 #[.int .i64 0] by rw [← hw4]; exact Q3.out)
        have D4 := Lib.hid (show WordsAt w4 (w.heap.size + 2) ws 1 by rw [← hw4]; exact HWD3.out)
        have hS4 : w4.cell? ⟨g, 7, none⟩ = some va := by rw [← hw4]; exact (P3.out.blk.cell 7).trans rfl
        clear hw4
        refine hK.out _ _ hS4 (fun hS => ?_)
        clear hK K
        try simp only [Act.put, List.setIfInBounds_toArray, List.set_cons_zero, List.set_cons_succ]
        refine wpAnyH_ready (rs := [8]) (by kernel_rfl) (by simp) ?_
        refine AllReadyH.cons rfl (fun K hK => ?_) AllReadyH.nil
        go_simp
        go_at_call 32
        refine (GA.out _ D4.out).mono ?_
        intro e w5 h5
        unfold ActP at h5
        rw [hac] at h5
        obtain ⟨t5, rfl⟩ := h5
        have T5 := Lib.hid (T4.out.then_ t5 (by omega))
        have Q5 := Lib.hid (Q4.out.out t5 (by omega))
        refine leaves_cons (f := 29) (args := #[.pointer (some ⟨w.heap.size + 1, 0, none⟩)]) (by simp) (by simp [go_sem]) ?_
        refine (catchL_noForm (w.heap.size + 1) (.int .i64 0) [] w5 Q5.out).mono ?_
        rintro e u' w9 ⟨rfl, rfl, g0, t9⟩
        have c0 : w9.cell? ⟨w.heap.size + 1, 0, none⟩ = some (.int .i64 3) := (g0.cell 0).trans rfl
        exact ⟨.int .i64 3, by simp [results, Try.results20, go_sem, c0], LineQ.no HF.out ((T5.out).then_ t9 (by omega))⟩
      | some a =>
        have HF := Lib.hid (show lineR p (numsOf s) true = .ok { p with al := p.al ++ [a] } by rw [HAC.out, hfo]; simp only []; rw [hac])
        go_enter_defers Try.func20, Try.ntmps20
        go_upto_region 2 with (fail)
        rw [HW1.out]
        go_wp2_with fail
        refine GS.out.mono ?_
        rintro e w2 ⟨rfl, hwd2, hb2⟩
        have T2 := Lib.hid (show TurnsIn (fun x => x = g ∨ va.ownBlock = some x) w w2 from T1.out.trans (.ofNew (by rw [S1.out]; exact hb2)))
        have Q2 := Lib.hid (Q1.out.below hb2 (by omega))
        have P2 := Lib.hid (P1.out.out (S := fun _ => False) (.ofNew (by rw [S1.out]; exact hb2)) (fun h => h) (fun _ _ h => h) (fun _ _ _ h => h))
        have HWD2 := Lib.hid hwd2
        clear hwd2 hb2
        go_wp2_with fail
        refine (GT.out _ HWD2.out).mono ?_
        rintro e w3 ⟨rfl, hk⟩
        have HWD3 := Lib.hid (took_words HWD2.out hk)
        have hk3 := took_turns hk
        have T3 := Lib.hid (T2.out.then_ hk3 (by omega))
        have Q3 := Lib.hid (Q2.out.out hk3 (by omega))
        have P3 := Lib.hid (P2.out.far HWD2.out hk3)
        clear hk3 hk
        have pb := (P3.out.blk.cell 0).trans (show _ = some (Value.bool p.b) from rfl)
        rw [hbt] at pb
        have GK := kind_any fw
        unfold kindE at GK
        rw [hfo] at GK
        have HGK := Lib.hid GK
        have GA := Lib.hid (fun W (h : WordsAt W (w.heap.size + 2) ws 1) => act_any (w.heap.size + 2) ws k W ⟨hk1, hk2⟩ HWP.out HWL.out HO.out h)
        have D3 : WordsAt w3.drew (w.heap.size + 2) ws 1 := HWD3.out
        have HGA := Lib.hid ((GA.out _ D3).mono fun e w' h => ActP.ok h hac)
        have pa := (P3.out.blk.cell 7).trans (show _ = some va from rfl)
        obtain ⟨n5, hn5⟩ : ∃ n, a.d.length = n := ⟨_, rfl⟩
        rw [hn5] at HGA
        obtain ⟨ka, ma, pp, na, va', da⟩ := a
        unfold actV at HGA
        simp only at HGA hn5
        have HN5 := Lib.hid hn5
        have HFA := HF
        clear GK GA D3 hn5 HF hac hfo HAC y0 y1 r0 rz e0 e1 d4 hb
        go_wp2_with fail
        refine wp_mono ?_ NoPan.to
        go_region_law (first
          | (go_simp; go_at_call 33; refine (HGK.out _).mono ?_; rintro e w4 ⟨rfl, rfl⟩)
          | (go_simp; go_at_call 32; refine HGA.out.mono ?_; rintro e w5 ⟨t5, A5, c5, rfl, own5⟩; have t5' : TurnsIn (fun b => b = w.heap.size + 2) w3 w5 := ⟨t5.os, t5.tape, t5.output, t5.size, t5.block⟩; have P5 := P3.out.far HWD3.out t5'; have T5 := Lib.hid (T3.out.then_ t5' (by omega)); have Q5 := Lib.hid (Q3.out.out t5' (by omega)); have O5 := P5.oa; have B5 : B ≤ w5.heap.size := Nat.le_trans (Nat.le_trans hB T3.out.size) t5'.size; have r5 := (P5.blk.cell 7).trans (show _ = some va from rfl); have r6 := ((P5.blk.alloc (.cells #[.int .u8 ka, .int .u8 ma, .int .i64 pp, .int .i64 na, .int .u64 va', .slice A5 n5 c5] 40)).cell 7).trans (show _ = some va from rfl); have s35 := t5'.size; have HP5 := Lib.hid P5; have HOW5 := Lib.hid (own5.mono (B' := B) (Nat.le_trans hB T3.out.size)); clear t5 t5' P5 own5)
          | (have _t := O5; refine step_append_act (by rfl) _ _ (by rfl) ⟨ka, ma, pp, na, va', da⟩ A5 n5 c5 (by exact O5) (by rfl) (by rfl) hn B5 ?_; intro A6 c6 w6 O6 t6 n6; have b6 := HP5.out.blk.out t6 (O5.ne_block HP5.out.blk (by decide)); have x6 := (b6.cell 7).trans (show _ = some va from rfl); have z6 := b6.frozen 7; have HB6 := Lib.hid b6; have HO6 := Lib.hid O6; have HT6 := Lib.hid t6; have HN6 := Lib.hid n6; have Q6 := Lib.hid (Q5.out.out t6 (O5.ne_block Q5.out (by decide))); clear _t b6 O6 t6 n6))
        all_goals
          have P6 := Lib.hid (HP5.out.add HOW5.out HT6.out HO6.out)
          have T6 := Lib.hid ((T5.out.trans (HT6.out.mono fun b _ hb => .inr hb)).setCell (p := ⟨g, 7, none⟩) (.inl (.inl rfl)) (.slice A6 (es.length + 1) c6))
          have hgn : w.heap.size + 1 ≠ g := by omega
          have Q7 := Lib.hid (Q6.out.far (p := ⟨g, 7, none⟩) hgn (.slice A6 (es.length + 1) c6))
          have r9 := (Q7.out.cell 0).trans (show _ = some (Value.int .i64 0) from rfl)
          have z9 := Q7.out.frozen 0
          have HF := HFA
          have HNW := Lib.hid (show Newer w va (.slice A6 (es.length + 1) c6) from by
            rcases HN6.out with h | h
            · exact .inl h
            · exact .inr fun x hx => Nat.le_trans (Nat.le_trans T3.out.size (by have := T5.out.size; omega)) (h x hx))
          unfold NoPan
          go_wp2_with fail
          refine leaves_cons (f := 29) (args := #[.pointer (some ⟨w.heap.size + 1, 0, none⟩)]) (by simp) (by simp [go_sem]) ?_
          refine (catchL_idle ⟨w.heap.size + 1, 0, none⟩ _).mono ?_
          rintro e u' w9 ⟨rfl, rfl, hw9⟩
          subst hw9
          have g0 := (Q7.out).set_ 0 (.int .i64 0)
          have c0 := (g0.cell 0).trans (show _ = some (Value.int .i64 0) from rfl)
          exact ⟨.int .i64 0, by simp [results, Try.results20, go_sem, c0], LineQ.yes HF.out ((T6.out).then_ ((TurnsIn.refl (fun x => x = w.heap.size + 1) _).setCell (p := ⟨w.heap.size + 1, 0, none⟩) (.inl rfl) (.int .i64 0)) (by omega)) ((P6.out).far (Q7.out) ((TurnsIn.refl (fun x => x = w.heap.size + 1) _).setCell (p := ⟨w.heap.size + 1, 0, none⟩) (.inl rfl) (.int .i64 0))) (HNW.out)⟩
end Go.Proofs.Ytngeemfcmoahoaa.Tv
