import Derived.Test.YteciabdjkaackaaGreatPFHeightsToTT6
import Derived.Test.YteciabdjkaackaaGreatPRTwoToTDe
namespace Go.Proofs.YteciabdjkaackaaGreat
set_option linter.unusedVariables false
open Go.RowKit
def inC8 (z:Int):List Value:=[.int .i64 z]
def nodP (l:List TV):List Int:=(l.filter fun t=>decide (t.prod≠-1)).map (·.prod)
theorem nodP_app (l m:List TV):nodP (l++m)=nodP l++nodP m:=by simp [nodP]
def poF:Nat->TV->List TV
 | 0,_=>[]
 | n+1,t=>(t.kids.flatMap (poF n))++[t]
def posT (t:TV):List TV:=poF (tsz t) t
def posL (l:List TV):List TV:=l.flatMap posT
theorem poF_any:∀ (n m:Nat) (t:TV),tsz t<=n->tsz t<=m->poF n t=poF m t
 | 0,_,t,h,_=>by have:=tsz_pos t;omega
 | _+1,0,t,_,h=>by have:=tsz_pos t;omega
 | n+1,m+1,t,h,h'=>by
  rw [poF,poF]
  congr 1
  exact fm_congr _ fun k hk=>poF_any n m k (by have:=kid_lt hk;omega) (by have:=kid_lt hk;omega)
theorem posT_eq (t:TV):posT t=posL t.kids++[t]:=by
 obtain ⟨n,hn⟩:∃ n,tsz t=n+1:=⟨tsz t - 1,by have:=tsz_pos t;omega⟩
 unfold posT posL
 rw [hn,poF]
 congr 1
 exact fm_congr _ fun k hk=>poF_any _ _ k (by have:=kid_lt hk;omega) (Nat.le_refl _)
structure TwR {α β:Type}(τ:TypeId)(k:Nat)(f:α->List Value)(σ:TypeId)(l:Nat)(g:β->List Value)(w:World)(O:List α)(S:List β)(vo vs:Value)(wr:World):Prop where
 o:RO τ k f wr vo O
 s:RO σ l g wr vs S
 oo:∀ j,vo.ownBlock=some j->w.heap.size<=j
 so:∀ j,vs.ownBlock=some j->w.heap.size<=j
 ne:∀ j,vo.ownBlock=some j->vs.ownBlock≠some j
 bel:Below w.heap.size w wr
section
variable {α β:Type} {τ σ:TypeId} {k l:Nat} {f:α->List Value} {g:β->List Value} {w wr w1 w4:World} {O O':List α} {S S':List β} {vo vs v':Value}
theorem TwR.any (h:TwR τ k f σ l g w O S vo vs wr)(hb:Below wr.heap.size wr w1):TwR τ k f σ l g w O S vo vs w1 :=
 ⟨h.o.later hb,h.s.later hb,h.oo,h.so,h.ne,h.bel.trans (hb.mono h.bel.size)⟩
theorem TwR.swap (h:TwR τ k f σ l g w O S vo vs wr):TwR σ l g τ k f w S O vs vo wr:=⟨h.s,h.o,h.so,h.oo,fun j hj hj'=>h.ne j hj' hj,h.bel⟩
theorem TwR.out (h:TwR τ k f σ l g w O S vo vs wr)(hb:Below wr.heap.size wr w1)(hg:Grew w1 w4 vo v')(hi:RO τ k f w4 v' O'):TwR τ k f σ l g w O' S v' vs w4:=by
 have h1:=h.any hb
 refine ⟨hi,h1.s.kept (fun j hj=>hg.grown.block j (h1.s.lt j hj) (fun e=>h.ne j e.symm hj)),fun j hj=>hg.own h1.bel.size h.oo j hj,h.so,fun j hj e=>?_,hg.below h1.bel (Nat.le_refl _) (fun j hj=>h.oo j hj)⟩
 rcases hg.moved with q | ⟨i,q,hq⟩
 ·exact h.ne j (by rw [<- q];exact hj) e
 ·rw [q] at hj
  have:=h1.s.lt j e
  simp at hj
  omega
theorem TwR.push (h:TwR τ k f σ l g w O S vo vs wr)(hb:Below wr.heap.size wr w1)(hg:Grew w1 w4 vs v')(hi:RO σ l g w4 v' S'):TwR τ k f σ l g w O S' vo v' w4:=(h.swap.out hb hg hi).swap
end
theorem slice_trU (b lc len i:Nat)(hi:i<=lc)(w:World):(Instr.slice 24 (.slice (some ⟨b,0,none⟩) len lc) none (some (.int .i64 (i:Int))) none).run Tryz.prog w=.ok (.slice (some ⟨b,0,none⟩) i lc) w:=by
 have hu:Tryz.prog.underlying 24=some (.slice (Tryz.prog.elem 24)):=by kernel_rfl
 have he:Tryz.prog.elem 24=26:=by kernel_rfl
 obtain ⟨i0,z,hinf,_,hz1,_⟩:=rkTree.info
 have:=run_slice_h (P:=Tryz.prog) (w:=w) 24 (some ⟨b,0,none⟩) len lc hu .i64 (i:Int) (by omega) (by omega)
 rw [this,he]
 simp [sizeOf,typeInfo,hinf,hz1]
 unfold sliced
 split<;>simp [aNn]
end Go.Proofs.YteciabdjkaackaaGreat
