/-
  Layer 25, image: a step of an image on a device, and of the document's, whatever its kind: contract. Conditions: as the theorem names.
-/
import Derived.Test.YtpnodocjpedcmaaDoorMImY
import Derived.Test.YtpnodocjpedcmaaDoorMGIays38
import Derived.Test.YtpnodocjpedcmaaDoorMImG
import Derived.Test.YtpnodocjpedcmaaDoorMImH
namespace Go.Proofs.YtpnodocjpedcmaaDoor.Im
open Go.ChangeShapes Go.WideShapes Go.ChangeAt Go.RowKit Go.Proofs.YtpnodocjpedcmaaDoor.Kit Go.Proofs.YtpnodocjpedcmaaDoor.Pt
open Go.Proofs.YtpnodocjpedcmaaDoor.Sec (Dv Dev RDv)
open Go.Proofs.YtpnodocjpedcmaaDoor.Sha (LaidS)

theorem does_any (w0 w : World) (x a mk mw p0 p1 p2 : Nat) (S B sl : Int) (s : Dv) (m : Step25) (dv : Value) (hd : Dev w0 w a mk mw s) (hi : ImAt w x a S B sl p0 p1 p2) (hr : RDv w dv s) (hL : LayOk S B sl s) (hm : m.Ok) (hin : m.In w0 w0.heap.size) (hbl : m.bs.length ≤ 1000) (hzl : m.zs.length ≤ 60) (hof : s.offs ≤ 100000000) (hwr : s.wr ≤ 100000000) (hLS : LaidS w0) :
    Calls Tryd.prog 30 #[.pointer (some ⟨x, 0, none⟩), .pointer (some ⟨a, 0, none⟩), dv, .agg #[.int .i64 S, .int .i64 B, .int .i64 sl], .agg m.cells.toArray] w (Does25 w0 w x a mk mw p0 p1 p2 S B sl s) := by
  by_cases k0 : m.k = 0
  · exact does_put w0 w x a mk mw p0 p1 p2 S B sl s m dv hd hi hr hL hm hin hbl hzl hof hwr k0
  by_cases k1 : m.k = 1
  · exact does_keep w0 w x a mk mw p0 p1 p2 S B sl s m dv hd hi hr hL hm hin hbl hzl hof hwr k1
  by_cases k2 : m.k = 2
  · exact does_kept w0 w x a mk mw p0 p1 p2 S B sl s m dv hd hi hr hL hm hin hbl hzl hof hwr k2
  by_cases k3 : m.k = 3
  · exact does_sum w0 w x a mk mw p0 p1 p2 S B sl s m dv hd hi hr hL hm hin hbl hzl hof hwr hLS k3
  by_cases k4 : m.k = 4
  · exact does_fuse w0 w x a mk mw p0 p1 p2 S B sl s m dv hd hi hr hL hm hin hbl hzl hof hwr k4
  by_cases k5 : m.k = 5
  · exact does_back w0 w x a mk mw p0 p1 p2 S B sl s m dv hd hi hr hL hm hin hbl hzl hof hwr k5
  by_cases k6 : m.k = 6
  · exact does_sync w0 w x a mk mw p0 p1 p2 S B sl s m dv hd hi hr hL hm hin hbl hzl hof hwr k6
  exact does_range w0 w x a mk mw p0 p1 p2 S B sl s m dv hd hi hr hL hm hin hbl hzl hof hwr ⟨k0, k1, k2, k3, k4, k5, k6⟩
end Go.Proofs.YtpnodocjpedcmaaDoor.Im
