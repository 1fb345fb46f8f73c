import Derived.Test.YtlkkllehaabebaaPPC18ToPC19
import Derived.Test.YtlkkllehaabebaaPGArgToGInts
import Derived.Test.YtlkkllehaabebaaPGBulkToFBulk
namespace Go.Proofs.Ytlkkllehaabebaa
set_option linter.unusedVariables false
set_option maxRecDepth 100000
set_option maxHeartbeats 16000000
open Go.ChangeShapes Go.WideShapes Go.ChangeAt Go.RowKit
theorem gcellsConf : Try.prog.cellsOf 70 = 4 := by kernel_rfl
def CD {H : Type} (q : CV) (d : DataW H) : Prop := ∃ d0 d1 d2 d3, d = .agg [d0, d1, d2, d3] /\ LD q.red.length d3
theorem open_confl {H : Type} {enc : TypeId × Value -> H} {W : World} {base : Nat} {v : Value} {d : DataW H} {p : List MemPlace} (hv : Value.okWide Try.prog W .any base 70 v)
  (h : DataW.Trod enc Try.prog W 0 (fun _ => true) true 70 v d p) :
  ∃ q : CV, v = q.val /\ InRow W q.ra q.red /\ CD q d := by
 obtain ⟨cs, rfl, hsz⟩ := okWide_struct Try.underlying70 hv
 obtain ⟨fuel, h⟩ := h
 obtain ⟨xs, n, _, hx, hl, hlen, hf⟩ := DataW.trod_struct Try.underlying70 h
 simp only [Value.cells] at hl hf
 rw [gcellsConf] at hl
 obtain ⟨cs⟩ := cs
 simp only at hl hf
 match xs, hlen, cs, hl with
 | [y0, y1, y2, y3], _, [e0, e1, e2, e3], _ =>
  have g0 := hf 0 _ rfl
  have g1 := hf 1 _ rfl
  have g2 := hf 2 _ rfl
  have g3 := hf 3 _ rfl
  simp [gcellsInt, gcellsInts] at g0 g1 g2 g3
  obtain ⟨s0, h0, _, _⟩ := DataW.trod_int Try.underlying3 g0
  obtain ⟨s1, h1, _, _⟩ := DataW.trod_int Try.underlying3 g1
  obtain ⟨s2, h2, _, _⟩ := DataW.trod_int Try.underlying3 g2
  obtain ⟨ra, rc, red, h3, hr, _, hd, _⟩ := onums g3
  simp only [List.cons.injEq, and_true] at h0 h1 h2 h3
  subst h0; subst h1; subst h2; subst h3
  simp only [Prod.mk.injEq] at hx
  exact ⟨⟨s0, s1, s2, ra, rc, red⟩, rfl, hr, ⟨y0.1, y1.1, y2.1, y3.1, hx.1, hd⟩⟩
theorem confl_bulk {H : Type} {q : CV} {M : Nat} {d : DataW H} (h : CD q d) (hb : Rows.uptoBulk d <= M) : q.red.length <= M := by
 obtain ⟨d0, d1, d2, d3, rfl, hl⟩ := h
 exact ld_bulk hl (agg_bulk hb (by simp))
end Go.Proofs.Ytlkkllehaabebaa
