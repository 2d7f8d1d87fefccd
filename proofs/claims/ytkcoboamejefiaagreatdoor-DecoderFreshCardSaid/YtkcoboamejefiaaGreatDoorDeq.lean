/-
  Two values compared, in a walk, by a fact that is known.
-/
import Derived.Test.YtkcoboamejefiaaGreatDoorK6
set_option maxHeartbeats 8000000
set_option linter.unusedSimpArgs false
set_option linter.unusedVariables false
set_option maxRecDepth 100000
/- Deq -/
namespace Go.Proofs.YtkcoboamejefiaaGreatDoor.Lp
open Go.RowKit Fx Fq Tb
theorem q9o {P : Program} {ops : Array Oper} {rest : List Oper} {a : Act} {w : World} {Q : Exit → Act → World → Prop} {d : Option Tmp} {ty : TypeId} {p : String} {af : Array Edge} {gd : Option (Nat × Bool)} {b : BinOp} {T T2 : TypeId} {x y : Operand} (h : wpList P ops Q (⟨d, .binOp b T x y T2, ty, p, af, gd⟩ :: rest) a w) : wpList P ops Q (⟨d, .binOp b T x y T2, ty, p, af, gd⟩ :: rest) a w := h
theorem grdSyQ : Tryz.prog.eqGuardType Tryz.prog.depth 28 = false := by kernel_rfl
theorem ex_ne {o : Oper} {a : Act} {u : World} (T t2 : TypeId) (x y : Operand) (ho : o.op = .binOp .neq T x y t2) {c1 c2 : Array Value} (hx : a.eval x = .agg c1) (hy : a.eval y = .agg c2) (hg : Tryz.prog.eqGuardType Tryz.prog.depth T = false) {b : Bool} (he : (Op.equalIn 10000 T (.agg c1) (.agg c2)).run Tryz.prog u = .ok b u) :
  (execOp a.eval o).run Tryz.prog u = .ok (.value (.bool (!b))) u := by
 unfold execOp
 simp only [ho, hx, hy]
 simp [go_sem, eqGuard, binOp, Op.equal, Op.maxDepth, hg, he]
theorem ex_eq {o : Oper} {a : Act} {u : World} (T t2 : TypeId) (x y : Operand) (ho : o.op = .binOp .eql T x y t2) {c1 c2 : Array Value} (hx : a.eval x = .agg c1) (hy : a.eval y = .agg c2) (hg : Tryz.prog.eqGuardType Tryz.prog.depth T = false) {b : Bool} (he : (Op.equalIn 10000 T (.agg c1) (.agg c2)).run Tryz.prog u = .ok b u) :
  (execOp a.eval o).run Tryz.prog u = .ok (.value (.bool b)) u := by
 unfold execOp
 simp only [ho, hx, hy]
 simp [go_sem, eqGuard, binOp, Op.equal, Op.maxDepth, hg, he]
theorem wl_val {ops : Array Oper} {rest : List Oper} {o : Oper} {a : Act} {w : World} {Q : Exit → Act → World → Prop} (hgd : Region.wanted o (yielded ops a.tmps) = true) {v : Value} (hv : (execOp a.eval o).run Tryz.prog w = .ok (.value v) w) (h : wpList Tryz.prog ops Q rest (a.put o.dst v) w) : wpList Tryz.prog ops Q (o :: rest) a w :=
 wl_step hgd fun K hK => by
  have := hK _ _ h
  unfold Oper.wp
  simp only [hv]
  exact this
end Go.Proofs.YtkcoboamejefiaaGreatDoor.Lp
