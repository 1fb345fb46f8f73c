import Derived.Test.YtlfiohdhcmmjbaaGreatDoorPTM55ToTM56
namespace Go.Proofs.YtlfiohdhcmmjbaaGreatDoor
set_option linter.unusedVariables false
set_option maxRecDepth 100000
set_option maxHeartbeats 16000000
open Go.RowKit Go.Shelf Go.Maps
theorem run_il_append7 (w:World)(ty:TypeId)(v:Value)(l:List Int)(h:IL w v l)(b c:Nat)(k:Int)(hy:w.cell? ⟨b,0,none⟩=some (.int .i64 k))(hlen:l.length<=1000000) :
  ∃ a' n' c' w',(Builtin.append_ #[41,41] ty #[v,.slice (some ⟨b,0,none⟩) 1 c]).run Tryz.prog w=.ok (.slice a' n' c') w'/\IL w' (.slice a' n' c') (l++[k])/\Grew w w' v (.slice a' n' c'):=by
 obtain ⟨i0,hi,hz0,hz1,hz2⟩:=infoInt_parts
 obtain ⟨v',w',hrun,hown,hgrow,_,hmv⟩:=run_append_own_at (P:=Tryz.prog) (w:=w) 0 41 ty 3 i0 (.int .i64 0) 1 8 Tryz.underlying41 hi hz0 hz1 hz2 rfl (by decide) v l.length (l.map (.int .i64 ·)) h ⟨b,0,none⟩ 1 c [.int .i64 k] (by simp) (fun j u hu=>by rw [aNn,Nat.zero_add];rcases j with _ | j<;>simp at hu<;>subst hu<;>assumption) (fun u hu=>by simp at hu;subst hu;rfl) (by unfold maxLen;omega) (by omega) (Nat.zero_le _)
 have h6:IL w' v' (l++[k]):=by
  unfold IL
  have e:(l++[k]).map (fun x:Int=>Value.int .i64 x)=l.map (fun x:Int=>Value.int .i64 x)++[.int .i64 k]:=by simp
  rw [e]
  simpa using hown
 obtain ⟨a',c',rfl⟩:=il_len h6
 exact ⟨_,_,_,w',hrun,h6,⟨hgrow,hmv.imp id fun e=>⟨_,e,Nat.le_refl _⟩⟩⟩
theorem step_il_append7 {ops:Array Oper}{o:Oper}{a:Act}{w:World}{K:Act->World->Prop}{Q:Exit->Act->World->Prop}{E:Prop}
  (hg:o.guard=none) (s x:Operand) (hop:o.op=Op.call { callee:=Callee.builtin Builtin.append,args:=#[s,x],argTypes:=#[41,41] })
  (v:Value) (l:List Int) (hs:a.eval s=v) (h:IL w v l) (b c:Nat) (k:Int) (hx:a.eval x=.slice (some ⟨b,0,none⟩) 1 c) (hy:w.cell? ⟨b,0,none⟩=some (.int .i64 k)) (hlen:l.length<=1000000)
  (hK:∀ a' n' c' w',IL w' (.slice a' n' c') (l++[k])->Grew w w' v (.slice a' n' c')->K (a.put o.dst (.slice a' n' c')) w') :
  if Region.wanted o (yielded ops a.tmps)=true then Oper.wp Tryz.prog o a w K Q else E:=by
 have hw:Region.wanted o (yielded ops a.tmps)=true:=by simp [Region.wanted,hg]
 rw [if_pos hw]
 obtain ⟨a',n',c',w',hrun,r1,r2⟩:=run_il_append7 w o.type v l h b c k hy hlen
 unfold Oper.wp
 simp [execOp,hop,resolve,invoke,builtin,hs,hx,hrun,Result.andThen]
 exact hK a' n' c' w' r1 r2
theorem il_ne7 {w:World}{v:Value}{l:List Int}(h:IL w v l){k:Nat}{C:Array Value}{t:TypeId}(hk:w.heap[k]?=some (.cells C t (0,0)))(ht:t≠3):v.ownBlock≠some k:=fun e=>by
 rcases h.2 with ⟨e1,_⟩ | ⟨g,cap,cur,e1,h1,h2,_⟩
 ·rw [e1] at e;simp [Value.ownBlock] at e
 ·rw [e1] at e
  simp [Value.ownBlock] at e
  subst e
  rw [h2] at hk
  simp at hk
  exact ht hk.2.symm
theorem two_cellsL {w:World}{b:Nat}{v0 v1:Value}{t:TypeId}(h:w.heap[b]?=some (.cells #[v0,v1] t (0,0))):w.cell? ⟨b,0,none⟩=some v0/\w.cell? ⟨b,1,none⟩=some v1/\(∀ i,w.frozen? ⟨b,i,none⟩=false) :=
 ⟨(cQa h).trans rfl,(cQa h).trans rfl,fun i=>by simp [World.frozen?,h]⟩
structure LI7 (w2:World)(ob:Nat)(asc:Int)(R:List Int)(a:Option Addr)(c:Nat)(wr:World):Prop where
 box:wr.heap[ob]?=some (.cells #[.int .i64 asc,.slice a R.length c] 78)
 il:IL wr (.slice a R.length c) R
 own:∀ j,(Value.slice a R.length c).ownBlock=some j->w2.heap.size<=j
 lo:w2.heap.size<=ob
 bel:Below w2.heap.size w2 wr
theorem LI7.any {w2 wr w':World}{ob:Nat}{asc:Int}{R:List Int}{a:Option Addr}{c:Nat}(h:LI7 w2 ob asc R a c wr)(hb:Below wr.heap.size wr w'):LI7 w2 ob asc R a c w':=⟨(hb.block _ (lt_of_block h.box)).trans h.box,h.il.later hb,h.own,h.lo,h.bel.trans (hb.mono h.bel.size)⟩
structure S4 (vt vn:Value)(st:Int)(w1:World)(b12 H:Nat)(wz:World)(H4:Nat)(L:List PV)(pa:Option Addr)(pc:Nat)(LL:List LV)(la:Option Addr)(lc:Nat)(wr:World):Prop where
 box:wr.heap[b12]?=some (.cells #[vt,vn,.int .i64 st,.slice pa L.length pc,.slice la LL.length lc] 26)
 po:PO H wr (.slice pa L.length pc) L
 pH:∀ j,(Value.slice pa L.length pc).ownBlock=some j->j < H4
 xH:∀ x∈L,∀ j,(Value.slice x.ra x.right.length x.rc).ownBlock=some j->j < H4
 lv:LO H4 wr (.slice la LL.length lc) LL
 bH:b12 < H
 HH:H<=H4
 hH:H4<=wr.heap.size
 lo:w1.heap.size<=b12
 bel:Below w1.heap.size w1 wr
 ex:∀ k,k < H->k≠b12->wr.heap[k]?=wz.heap[k]?
theorem S4.any {vt vn:Value}{st:Int}{w1 wz wr w':World}{b12 H H4:Nat}{L:List PV}{pa:Option Addr}{pc:Nat}{LL:List LV}{la:Option Addr}{lc:Nat}(h:S4 vt vn st w1 b12 H wz H4 L pa pc LL la lc wr)(hb:Below wr.heap.size wr w'):S4 vt vn st w1 b12 H wz H4 L pa pc LL la lc w':=⟨(hb.block _ (lt_of_block h.box)).trans h.box,h.po.later hb,h.pH,h.xH,h.lv.later hb,h.bH,h.HH,Nat.le_trans h.hH hb.size,h.lo,h.bel.trans (hb.mono h.bel.size),fun k hk hn=>(hb.block k (by have:=h.hH;have:=h.HH;omega)).trans (h.ex k hk hn)⟩
theorem S4.put {vt vn:Value}{st:Int}{w1 wz wr w4:World}{b12 H H4:Nat}{L:List PV}{pa:Option Addr}{pc:Nat}{LL:List LV}{q:LV}{la a4:Option Addr}{lc c4:Nat}(h:S4 vt vn st w1 b12 H wz H4 L pa pc LL la lc wr)(hy:LY w4 (.slice a4 (LL++[q]).length c4) (LL++[q]))(hg:Grew wr w4 (.slice la LL.length lc) (.slice a4 (LL++[q]).length c4))(hq:IL wr (.slice q.ta q.terms.length q.tc) q.terms)(hn:∀ j,(Value.slice q.ta q.terms.length q.tc).ownBlock=some j->H4<=j/\(Value.slice la LL.length lc).ownBlock≠some j/\∀ x∈LL,(Value.slice x.ta x.terms.length x.tc).ownBlock≠some j):S4 vt vn st w1 b12 H wz H4 L pa pc (LL++[q]) a4 c4 (w4.setCell ⟨b12,4,none⟩ (.slice a4 (LL++[q]).length c4)):=by
 have hbH:=h.bH
 have hHH:=h.HH
 have bo4:=(hg.grown.block b12 (lt_of_block h.box) (fun e=>by have:=h.lv.lo _ e.symm;omega)).trans h.box
 obtain ⟨q1,q2⟩:=gBi h.bel (fun j hj=>by have:=h.lv.lo j hj;have:=h.lo;omega) hg
 have P:=h.lv.append hy hg h.hH hq hn
 have hk:∀ j,j < H4->w4.heap[j]?=wr.heap[j]?:=fun j hj=>hg.grown.block j (by have:=h.hH;omega) (fun e=>by have:=h.lv.lo _ e.symm;omega)
 have PP:PO H w4 (.slice pa L.length pc) L:=⟨h.po.row.kept fun j hj=>hk j (h.pH j hj),h.po.lo,fun x hx=>(h.po.each x hx).kept fun j hj=>hk j (h.xH x hx j hj),h.po.apart,h.po.two⟩
 exact ⟨hSt bo4 4 _,PP.kept fun k hk _=>Below.heap_setCell _ _ _ _ (fun e=>by have e2:k=b12:=e;omega),h.pH,h.xH,P.kept fun k hk _=>Below.heap_setCell _ _ _ _ (fun e=>by have e2:k=b12:=e;omega),h.bH,h.HH,by simp;exact Nat.le_trans h.hH hg.grown.size,h.lo,q1.setCell (p:=⟨b12,4,none⟩) h.lo _,fun k hk2 hne=>(Below.heap_setCell _ _ _ _ (fun e=>hne e)).trans ((hk k (by omega)).trans (h.ex k hk2 hne))⟩
structure D4 (g:GV)(T:List Bool)(gb tb t0:Nat)(w1:World):Prop where
 gx:w1.heap[gb]?=some (gBox g)
 lr:LvRow w1 g.la g.ls
 bt:BB w1 tb T
 tl:T.length=g.ts.length
 rt:NR w1 t0 g.ts.length T
 ll:g.ls.length<=32
 tt:∀ l∈g.ls,l.terms.length<=64/\∀ x∈l.terms,0<=x/\x < g.ts.length
 nt:g.ts.length<=64
theorem D4.later {g:GV}{T:List Bool}{gb tb t0:Nat}{w1 w':World}(h:D4 g T gb tb t0 w1)(hb:Below w1.heap.size w1 w'):D4 g T gb tb t0 w':=⟨(hb.block _ (lt_of_block h.gx)).trans h.gx,h.lr.later hb,h.bt.later hb,h.tl,h.rt.later hb,h.ll,h.tt,h.nt⟩
def K4 (g:GV)(gb rb tb t0 c10 b12:Nat)(a:Act):Prop:=Fr7 a/\a.tmps.getD 1 undef=.pointer (some ⟨gb,0,none⟩)/\a.tmps.getD 2 undef=.pointer (some ⟨rb,0,none⟩)/\a.tmps.getD 8 undef=.slice (some ⟨tb,0,none⟩) g.ts.length g.ts.length/\a.tmps.getD 10 undef=.slice (some ⟨t0,0,none⟩) g.ts.length c10/\a.tmps.getD 12 undef=.pointer (some ⟨b12,0,none⟩)
def I4 (g:GV)(T:List Bool)(f:Int×Int->Option Int)(gb rb tb t0 c10 b12 H:Nat)(wz:World)(H4:Nat)(vt vn:Value)(st:Int)(L:List PV)(pa:Option Addr)(pc:Nat)(w1:World)(a:Act)(w':World):Prop:=K4 g gb rb tb t0 c10 b12 a/\∃ (k:Nat) (LL:List LV) (la:Option Addr) (lc:Nat),k<=g.ls.length/\a.tmps.getD 18 undef=.int .i64 k/\LL.length<=k/\LL.map LV.core=lvsU f (g.ls.take k)/\S4 vt vn st w1 b12 H wz H4 L pa pc LL la lc w'
def mu4 (g:GV)(a:Act)(_:World):Nat:=g.ls.length - (intOf (a.tmps.getD 18 undef)).toNat
def s4S (ob gb lb lo2 sb so t0 x:Nat)(v u y:Value)(z cv:Int)(w':World):Prop:=w'.cell? ⟨ob,1,none⟩=some v/\w'.cell? ⟨gb,4,none⟩=some u/\w'.cell? ⟨lb,lo2,none⟩=some y/\w'.cell? ⟨sb,so,none⟩=some (.int .i64 z)/\w'.cell? ⟨t0,x,none⟩=some (.int .i64 cv)
set_option linter.unusedSimpArgs false in
set_option maxRecDepth 1000000 in
theorem round4_7 (g:GV)(T:List Bool)(f:Int×Int->Option Int)(gb rb tb t0 c10 b12 H:Nat)(wz:World)(H4:Nat)(vt vn:Value)(st:Int)(L:List PV)(pa:Option Addr)(pc:Nat)(w1:World)(hD:D4 g T gb tb t0 w1)(hf:∀ l∈g.ls,l.terms.filterMap (fun x=>f (1,x))=pgL T l.terms)(Q:Exit->Act->World->Prop)(hexit:∀ a' w' LL la lc,K4 g gb rb tb t0 c10 b12 a'->LL.map LV.core=lvsU f g.ls->S4 vt vn st w1 b12 H wz H4 L pa pc LL la lc w'->Q (.exit 6) a' w')(hQp:∀ c (a:Act) d v w,Q (.panic c) (a.put d v) w->Q (.panic c) a w)(a:Act)(w0:World)(hI:I4 g T f gb rb tb t0 c10 b12 H wz H4 vt vn st L pa pc w1 a w0) :
  Code.wp Tryz.prog (body7 2) (Exit.then (fun a' w''=>I4 g T f gb rb tb t0 c10 b12 H wz H4 vt vn st L pa pc w1 a' w''/\mu4 g a' w'' < mu4 g a w0) Q) a w0:=by
 obtain ⟨⟨⟨z1,z2⟩,h1,h2,h8,h10,h12⟩,k,LL,la,lc,hk,h18,hLk,hcore,hS⟩:=hI
 obtain ⟨φ,rfl⟩:=act251 z1 z2
 change φ 1=_ at h1
 change φ 2=_ at h2
 change φ 8=_ at h8
 change φ 10=_ at h10
 change φ 12=_ at h12
 change φ 18=_ at h18
 clear z1 z2
 have HS:Hid (S4 vt vn st w1 b12 H wz H4 L pa pc LL la lc w0):=hS
 have HD:Hid (∀ w',Below w1.heap.size w1 w'->D4 g T gb tb t0 w'):=fun w' h=>hD.later h
 obtain ⟨x0,x1,x2,x3,x4⟩:=gbc (HD.out w0 hS.bel).gx
 have hll:=hD.ll
 have hnt:=hD.nt
 unfold A251
 rw [h1,h2,h8,h10,h12,h18]
 clear h1 h2 h8 h10 h12 h18 hD
 by_cases hlt:k < g.ls.length
 ·obtain ⟨lb,lo,hpa,hbl,hc⟩:=(HD.out w0 hS.bel).lr.cells (by intro e;rw [e] at hlt;simp at hlt)
  obtain ⟨c0,c1⟩:=hc k hlt
  have klt:(k:Int) < (g.ls.length:Int):=by omega
  have hmem:g.ls.getD k .none∈g.ls:=by simp [List.getD,hlt]
  have HROW:Hid (∀ w',Below w1.heap.size w1 w'->InRow w' (g.ls.getD k .none).ta (g.ls.getD k .none).terms):=fun w' h=>(HD.out w' h).lr.rows _ hmem
  have htt:=(HD.out w0 hS.bel).tt _ hmem
  have HT:Hid _:=lvsU_take (f:=f) hlt
  have PC:Hid (∀ w',Below w1.heap.size w1 w'->w'.cell? ⟨gb,4,none⟩=some (.slice (some ⟨lb,lo,none⟩) g.ls.length g.lc)/\w'.cell? ⟨lb,lo+k*2+1,none⟩=some (.slice (g.ls.getD k .none).ta (g.ls.getD k .none).terms.length (g.ls.getD k .none).tc)):=fun w' h=>by
   obtain ⟨lb',lo',hpa',_,hc'⟩:=(HD.out w' h).lr.cells (by intro e;rw [e] at hlt;simp at hlt)
   rw [hpa] at hpa'
   simp only [Option.some.injEq,Addr.mk.injEq,and_true] at hpa'
   obtain ⟨rfl,rfl⟩:=hpa'
   have:=(gbc (HD.out w' h).gx).2.2.2.2
   rw [hpa] at this
   exact ⟨this,(hc' k hlt).2⟩
  have HF:=hf _ hmem
  have HL1:Hid (lv1 f (g.ls.getD k .none)=if pgL T (g.ls.getD k .none).terms=[] then none else some ((g.ls.getD k .none).assoc,pgL T (g.ls.getD k .none).terms)):=by
   show _=_
   unfold lv1
   rw [HF]
  rw [hpa] at x4
  generalize g.ls.getD k .none=q at *
  obtain ⟨asc,ta,tc,ts⟩:=q
  simp only at c0 c1 htt HROW PC HL1
  have HTT:Hid (∀ x∈ts,0<=x/\x < g.ts.length):=htt.2
  have tsl:=htt.1
  have HCO:Hid (LL.map LV.core=lvsU f (g.ls.take k)):=hcore
  have HLT:Hid (LL.length<=2000000):=by show _<=_;omega
  have P0:Hid (LI7 w0 w0.heap.size asc [] none 0 (w0.alloc (.cells #[.int .i64 asc,.slice none 0 0] 78))):=⟨heap_alloc_new _ _,IL.nil _,(fun j hj=>by simp [Value.ownBlock] at hj),Nat.le_refl _,bAl _ _⟩
  have BW0:Hid (Below w1.heap.size w1 w0):=hS.bel
  clear hc hbl hmem hpa hcore hS HF htt
  conv=>arg 2;whnf
  go_wp2
  clear x0 x1 x2 x3 x4 c0 c1
  go_loopw [20] (fun i wr=>∃ (k2:Nat) (a:Option Addr) (c:Nat),k2<=ts.length/\i=.int .i64 k2/\LI7 w0 w0.heap.size asc (pgL T (ts.take k2)) a c wr) (fun i _=>ts.length - (intOf i).toNat)
  case atStart=>exact ⟨0,none,0,Nat.zero_le _,rfl,P0.out⟩
  case round =>
   clear P0
   obtain ⟨k2,qa,qc,hk2,rfl,hI⟩:=hrel
   have HI:Hid (LI7 w0 w0.heap.size asc (pgL T (ts.take k2)) qa qc wr):=hI
   have bw:Below w1.heap.size w1 wr:=BW0.out.trans (hI.bel.mono BW0.out.size)
   have BW:Hid (Below w1.heap.size w1 wr):=bw
   obtain ⟨y0,y1⟩:=PC.out wr bw
   by_cases hlt2:k2 < ts.length
   ·obtain ⟨sb,so,hra,hsl,hsc⟩:=(HROW.out wr bw) (by intro e;rw [e] at hlt2;simp at hlt2)
    have s0:=hsc k2 hlt2
    have klt2:(k2:Int) < (ts.length:Int):=by omega
    have hmem2:=HTT.out _ (by simp [List.getD,hlt2]:ts.getD k2 0∈ts)
    have HT2:Hid _:=pgL_succ (T:=T) hlt2
    have hrl2:(pgL T (ts.take k2)).length<=k2:=by
     unfold pgL
     rw [List.length_map]
     exact Nat.le_trans (List.length_filter_le _ _) (by simp;omega)
    have PS:Hid (∀ w',Below w1.heap.size w1 w'->w'.cell? ⟨sb,so+k2,none⟩=some (.int .i64 (ts.getD k2 0))):=fun w' h=>by
     obtain ⟨sb',so',e',_,hc'⟩:=(HROW.out w' h) (by intro e;rw [e] at hlt2;simp at hlt2)
     rw [hra] at e'
     simp only [Option.some.injEq,Addr.mk.injEq,and_true] at e'
     obtain ⟨rfl,rfl⟩:=e'
     exact hc' k2 hlt2
    generalize ts.getD k2 0=x at *
    obtain ⟨xn,rfl⟩:∃ n:Nat,x=(n:Int):=⟨x.toNat,by omega⟩
    have xl:xn < T.length:=by rw [(HD.out _ bw).tl];omega
    have xlt:(xn:Int) < (g.ts.length:Int):=hmem2.2
    have ct:=(HD.out _ bw).bt.cell xl
    have HRT:Hid (∀ w',Below w1.heap.size w1 w'->w'.cell? ⟨t0,xn,none⟩=some (.int .i64 (cntU T xn))):=fun w' h=>(HD.out w' h).rt.2 xn (by omega)
    simp only [Int.toNat_natCast] at HT2
    generalize cntU T xn=cv at *
    generalize T.getD xn false=tv at *
    generalize pgL T (ts.take k2)=R at *
    have HLR:Hid (R.length<=1000000):=by show _<=_;omega
    rw [hra] at y1
    have PC2:Hid (∀ w',Below w1.heap.size w1 w'->w'.cell? ⟨gb,4,none⟩=some (.slice (some ⟨lb,lo,none⟩) g.ls.length g.lc)/\w'.cell? ⟨lb,lo+k*2+1,none⟩=some (.slice (some ⟨sb,so,none⟩) ts.length tc)):=fun w' h=>by rw [<- hra];exact PC.out w' h
    clear hsc hsl hI bw hra xl hmem2
    cases tv
    ·have R6:Hid (LI7 w0 w0.heap.size asc (pgL T (ts.take (k2+1))) qa qc wr):=by
      have e:=HT2.out
      rw [if_neg (by decide),List.append_nil] at e
      show LI7 _ _ _ _ _ _ _
      rw [e]
      exact HI.out
     go_wp2
     go_roundw
     case rel=>exact ⟨k2+1,qa,qc,by omega,by go_num,R6.out⟩
     case measure=>simp [intOf];omega
    ·have HE:Hid (pgL T (ts.take (k2+1))=R++[cv]):=by
      have e:=HT2.out
      rw [if_pos rfl] at e
      exact e
     go_wp2
     clear y0 y1 s0 ct
     obtain ⟨wa,hwa⟩:∃ wa:World,wa=wr.drew:=⟨_,rfl⟩
     have PA:Hid (LI7 w0 w0.heap.size asc R qa qc wa):=HI.out.any (by rw [hwa];exact (Below.refl _ _).drew)
     have GEN:Hid (∀ wq,LI7 w0 w0.heap.size asc R qa qc wq->s4S w0.heap.size gb lb (lo+k*2+1) sb (so+k2) t0 xn (.slice qa R.length qc) (.slice (some ⟨lb,lo,none⟩) g.ls.length g.lc) (.slice (some ⟨sb,so,none⟩) ts.length tc) (xn:Int) cv wq):=fun wq h=>by
      have b:=BW0.out.trans (h.bel.mono BW0.out.size)
      exact ⟨(two_cellsL h.box).2.1,(PC2.out wq b).1,(PC2.out wq b).2,PS.out wq b,HRT.out wq b⟩
     have hs:Hid (s4S w0.heap.size gb lb (lo+k*2+1) sb (so+k2) t0 xn (.slice qa R.length qc) (.slice (some ⟨lb,lo,none⟩) g.ls.length g.lc) (.slice (some ⟨sb,so,none⟩) ts.length tc) (xn:Int) cv wa):=GEN.out wa PA.out
     refine wp_region_x (S:=SX 17 (fun _=>True) (s4S w0.heap.size gb lb (lo+k*2+1) sb (so+k2) t0 xn (.slice qa R.length qc) (.slice (some ⟨lb,lo,none⟩) g.ls.length g.lc) (.slice (some ⟨sb,so,none⟩) ts.length tc) (xn:Int) cv)) (by kernel_rfl) ?_
     rw [<- hwa]
     clear hwa
     refine wXt (m:=17) (i:=0) (v:=?_) rfl (by kernel_rfl) (by kernel_rfl) (by decide) (by decide +kernel) (by decide +kernel) (fun _ _ _ h=>hQp _ _ _ _ _ h) (by kernel_rfl) (Or.inl ⟨by rfl,?_⟩) (SX.both trivial hs.out) ?_
     rotate_left
     ·(intro w hSw;obtain ⟨_,z0,z1,z2,z3,z4⟩:=hSw;go_simp;try (with_reducible rfl))
     (try simp only [Act.put,lsA,lsZ,lsN])
     refine wXt (m:=17) (i:=1) (v:=?_) rfl (by kernel_rfl) (by kernel_rfl) (by decide) (by decide +kernel) (by decide +kernel) (fun _ _ _ h=>hQp _ _ _ _ _ h) (by kernel_rfl) (Or.inl ⟨by rfl,?_⟩) (SX.both trivial hs.out) ?_
     rotate_left
     ·(intro w hSw;obtain ⟨_,z0,z1,z2,z3,z4⟩:=hSw;go_simp;try (with_reducible rfl))
     (try simp only [Act.put,lsA,lsZ,lsN])
     refine wXt (m:=17) (i:=2) (v:=?_) rfl (by kernel_rfl) (by kernel_rfl) (by decide) (by decide +kernel) (by decide +kernel) (fun _ _ _ h=>hQp _ _ _ _ _ h) (by kernel_rfl) (Or.inl ⟨by rfl,?_⟩) (SX.both trivial hs.out) ?_
     rotate_left
     ·(intro w hSw;obtain ⟨_,z0,z1,z2,z3,z4⟩:=hSw;go_simp;try (with_reducible rfl))
     (try simp only [Act.put,lsA,lsZ,lsN])
     refine wXt (m:=17) (i:=3) (v:=?_) rfl (by kernel_rfl) (by kernel_rfl) (by decide) (by decide +kernel) (by decide +kernel) (fun _ _ _ h=>hQp _ _ _ _ _ h) (by kernel_rfl) (Or.inl ⟨by rfl,?_⟩) (SX.both trivial hs.out) ?_
     rotate_left
     ·(intro w hSw;obtain ⟨_,z0,z1,z2,z3,z4⟩:=hSw;go_simp;try (with_reducible rfl))
     (try simp only [Act.put,lsA,lsZ,lsN])
     refine wXt (m:=17) (i:=4) (v:=?_) rfl (by kernel_rfl) (by kernel_rfl) (by decide) (by decide +kernel) (by decide +kernel) (fun _ _ _ h=>hQp _ _ _ _ _ h) (by kernel_rfl) (Or.inl ⟨by rfl,?_⟩) (SX.both trivial hs.out) ?_
     rotate_left
     ·(intro w hSw;obtain ⟨_,z0,z1,z2,z3,z4⟩:=hSw;go_simp;try (with_reducible rfl))
     (try simp only [Act.put,lsA,lsZ,lsN])
     refine wXt (m:=17) (i:=5) (v:=?_) rfl (by kernel_rfl) (by kernel_rfl) (by decide) (by decide +kernel) (by decide +kernel) (fun _ _ _ h=>hQp _ _ _ _ _ h) (by kernel_rfl) (Or.inl ⟨by rfl,?_⟩) (SX.both trivial hs.out) ?_
     rotate_left
     ·(intro w hSw;obtain ⟨_,z0,z1,z2,z3,z4⟩:=hSw;go_simp;try (with_reducible rfl))
     (try simp only [Act.put,lsA,lsZ,lsN])
     refine wXt (m:=17) (i:=6) (v:=?_) rfl (by kernel_rfl) (by kernel_rfl) (by decide) (by decide +kernel) (by decide +kernel) (fun _ _ _ h=>hQp _ _ _ _ _ h) (by kernel_rfl) (Or.inl ⟨by rfl,?_⟩) (SX.both trivial hs.out) ?_
     rotate_left
     ·(intro w hSw;obtain ⟨_,z0,z1,z2,z3,z4⟩:=hSw;go_simp;try (with_reducible rfl))
     (try simp only [Act.put,lsA,lsZ,lsN])
     refine wXt (m:=17) (i:=7) (v:=?_) rfl (by kernel_rfl) (by kernel_rfl) (by decide) (by decide +kernel) (by decide +kernel) (fun _ _ _ h=>hQp _ _ _ _ _ h) (by kernel_rfl) (Or.inl ⟨by rfl,?_⟩) (SX.both trivial hs.out) ?_
     rotate_left
     ·(intro w hSw;obtain ⟨_,z0,z1,z2,z3,z4⟩:=hSw;go_simp;try (with_reducible rfl))
     (try simp only [Act.put,lsA,lsZ,lsN])
     refine wXt (m:=17) (i:=8) (v:=?_) rfl (by kernel_rfl) (by kernel_rfl) (by decide) (by decide +kernel) (by decide +kernel) (fun _ _ _ h=>hQp _ _ _ _ _ h) (by kernel_rfl) (Or.inl ⟨by rfl,?_⟩) (SX.both trivial hs.out) ?_
     rotate_left
     ·(intro w hSw;obtain ⟨_,z0,z1,z2,z3,z4⟩:=hSw;go_simp;try (with_reducible rfl))
     (try simp only [Act.put,lsA,lsZ,lsN])
     refine wXt (m:=17) (i:=9) (v:=?_) rfl (by kernel_rfl) (by kernel_rfl) (by decide) (by decide +kernel) (by decide +kernel) (fun _ _ _ h=>hQp _ _ _ _ _ h) (by kernel_rfl) (Or.inl ⟨by rfl,?_⟩) (SX.both trivial hs.out) ?_
     rotate_left
     ·(intro w hSw;obtain ⟨_,z0,z1,z2,z3,z4⟩:=hSw;go_simp;try (with_reducible rfl))
     (try simp only [Act.put,lsA,lsZ,lsN])
     refine wXt (m:=17) (i:=10) (v:=?_) rfl (by kernel_rfl) (by kernel_rfl) (by decide) (by decide +kernel) (by decide +kernel) (fun _ _ _ h=>hQp _ _ _ _ _ h) (by kernel_rfl) (Or.inl ⟨by rfl,?_⟩) (SX.both trivial hs.out) ?_
     rotate_left
     ·(intro w hSw;obtain ⟨_,z0,z1,z2,z3,z4⟩:=hSw;go_simp;try (with_reducible rfl))
     (try simp only [Act.put,lsA,lsZ,lsN])
     refine wXt (m:=17) (i:=11) (v:=?_) rfl (by kernel_rfl) (by kernel_rfl) (by decide) (by decide +kernel) (by decide +kernel) (fun _ _ _ h=>hQp _ _ _ _ _ h) (by kernel_rfl) (Or.inl ⟨by rfl,?_⟩) (SX.both trivial hs.out) ?_
     rotate_left
     ·(intro w hSw;obtain ⟨_,z0,z1,z2,z3,z4⟩:=hSw;go_simp;try (with_reducible rfl))
     (try simp only [Act.put,lsA,lsZ,lsN])
     refine wXt (m:=17) (i:=12) (v:=?_) rfl (by kernel_rfl) (by kernel_rfl) (by decide) (by decide +kernel) (by decide +kernel) (fun _ _ _ h=>hQp _ _ _ _ _ h) (by kernel_rfl) (Or.inl ⟨by rfl,?_⟩) (SX.both trivial hs.out) ?_
     rotate_left
     ·(intro w hSw;obtain ⟨_,z0,z1,z2,z3,z4⟩:=hSw;go_simp;try (with_reducible rfl))
     (try simp only [Act.put,lsA,lsZ,lsN])
     refine wXt (m:=17) (i:=13) (v:=?_) rfl (by kernel_rfl) (by kernel_rfl) (by decide) (by decide +kernel) (by decide +kernel) (fun _ _ _ h=>hQp _ _ _ _ _ h) (by kernel_rfl) (Or.inl ⟨by rfl,?_⟩) (SX.both trivial hs.out) ?_
     rotate_left
     ·(intro w hSw;obtain ⟨_,z0,z1,z2,z3,z4⟩:=hSw;go_simp;try (with_reducible rfl))
     (try simp only [Act.put,lsA,lsZ,lsN])
     refine wX1 (j:=14) (by decide +kernel) rfl (fun K' hK=>?_)
     go_simp
     obtain ⟨wc,hwc⟩:∃ wc:World,wc=wa.alloc (.cells #[.int .i64 cv] 3):=⟨_,rfl⟩
     have PC':Hid (LI7 w0 w0.heap.size asc R qa qc wc):=PA.out.any (by rw [hwc];exact bAl _ _)
     have SC:Hid (wc.heap[wa.heap.size]?=some (.cells #[.int .i64 cv] 3)):=by
      show _=_
      rw [hwc]
      exact heap_alloc_new _ _
     rw [<- hwc]
     refine hK.out _ _ (SX.both trivial (GEN.out wc PC'.out)) ?_
     clear hK K' hwc hs
     (try simp only [Act.put,lsA,lsZ,lsN])
     refine wX1 (j:=15) (by decide +kernel) rfl (fun K' hK=>?_)
     refine step_il_append7 (by rfl) _ _ (by rfl) (.slice qa R.length qc) R (by rfl) PC'.out.il wa.heap.size 1 cv (by rfl) ((cQa SC.out).trans rfl) HLR.out ?_
     intro a4 n4 c4 w4 hy4 hg4
     obtain rfl:n4=(R++[cv]).length:=by obtain ⟨a',c',e⟩:=il_len hy4;simp only [Value.slice.injEq] at e;exact e.2.1
     have bo4:=(hg4.grown.block w0.heap.size (lt_of_block PC'.out.box) (fun e=>il_ne7 PC'.out.il PC'.out.box (by decide) e.symm)).trans PC'.out.box
     obtain ⟨q1,q2⟩:=gBi PC'.out.bel PC'.out.own hg4
     have H4:Hid (IL w4 (.slice a4 (R++[cv]).length c4) (R++[cv])/\w4.heap[w0.heap.size]?=some (.cells #[.int .i64 asc,.slice qa R.length qc] 78)/\(∀ j,(Value.slice a4 (R++[cv]).length c4).ownBlock=some j->w0.heap.size<=j)/\Below w0.heap.size w0 w4):=⟨hy4,bo4,q2,q1⟩
     have b41:=BW0.out.trans (q1.mono BW0.out.size)
     have hs4:Hid (s4S w0.heap.size gb lb (lo+k*2+1) sb (so+k2) t0 xn (.slice qa R.length qc) (.slice (some ⟨lb,lo,none⟩) g.ls.length g.lc) (.slice (some ⟨sb,so,none⟩) ts.length tc) (xn:Int) cv w4):=⟨(two_cellsL bo4).2.1,(PC2.out w4 b41).1,(PC2.out w4 b41).2,PS.out w4 b41,HRT.out w4 b41⟩
     have f1:=(two_cellsL bo4).2.1
     have f31:=(two_cellsL bo4).2.2 1
     clear hy4 hg4 q1 q2 bo4 b41
     refine hK.out _ _ (SX.both trivial hs4.out) ?_
     clear hK K'
     (try simp only [Act.put,lsA,lsZ,lsN])
     refine wX1 (j:=16) (by decide +kernel) rfl (fun K' hK=>?_)
     go_simp
     refine hK.out _ _ (SX.both trivial hs4.out) ?_
     clear hK K'
     (try simp only [Act.put,lsA,lsZ,lsN])
     refine wX1 (j:=17) (by decide +kernel) rfl (fun K' hK=>?_)
     go_simp
     refine hK.out _ _ (SX.one trivial (by kernel_rfl)) ?_
     clear hK K'
     (try simp only [Act.put,lsA,lsZ,lsN])
     refine wXd (by decide +kernel) ?_
     have R6:Hid (LI7 w0 w0.heap.size asc (pgL T (ts.take (k2+1))) a4 c4 (w4.setCell ⟨w0.heap.size,1,none⟩ (.slice a4 (R++[cv]).length c4))):=by
      show LI7 _ _ _ _ _ _ _
      rw [HE.out]
      exact ⟨hSt H4.out.2.1 1 _,H4.out.1.kept fun j hj=>Below.heap_setCell _ _ _ _ (fun e=>by subst e;exact il_ne7 H4.out.1 H4.out.2.1 (by decide) hj),H4.out.2.2.1,PC'.out.lo,H4.out.2.2.2.setCell (p:=⟨w0.heap.size,1,none⟩) PC'.out.lo _⟩
     have HN4:Hid (R.length+1=(R++[cv]).length):=by show _=_;simp
     clear f1 f31 hs4
     go_wp2
     go_roundw
     case rel=>exact ⟨k2+1,a4,c4,by omega,by go_num,by rw [HN4.out];exact R6.out⟩
     case measure=>simp [intOf];omega
   ·obtain rfl:k2=ts.length:=by omega
    rw [List.take_length] at HI hI
    have HR:Hid (∃ R,pgL T ts=R):=⟨_,rfl⟩
    obtain ⟨R,hR⟩:=HR.out
    clear HR
    rw [hR] at HI hI HL1
    have S5:Hid (S4 vt vn st w1 b12 H wz H4 L pa pc LL la lc wr):=HS.out.any hI.bel
    have HOW:Hid (∀ j,(Value.slice qa R.length qc).ownBlock=some j->H4<=j/\(Value.slice la LL.length lc).ownBlock≠some j/\∀ x∈LL,(Value.slice x.ta x.terms.length x.tc).ownBlock≠some j):=fun j hj=>by
     have h1:=HI.out.own j hj
     have h3:=HS.out.hH
     refine ⟨by omega,fun e=>?_,fun x hx e=>?_⟩
     ·have:=HS.out.lv.row.lt j e;omega
     ·have:=(HS.out.lv.each x hx).lt j e;omega
    have hrl3:R.length<=ts.length:=by
     rw [<- hR]
     unfold pgL
     rw [List.length_map]
     exact List.length_filter_le _ _
    obtain ⟨d0,d1,d2⟩:=two_cellsL hI.box
    clear hI hR bw
    cases R with
    | nil =>
     have R5:Hid (LL.map LV.core=lvsU f (g.ls.take (k+1))):=by
      show _=_
      rw [HT.out,HL1.out,if_pos rfl,HCO.out]
      simp
     go_wp2
     exact ⟨⟨⟨⟨rfl,rfl⟩,rfl,rfl,rfl,rfl,rfl⟩,k+1,LL,la,lc,by omega,by go_num,by omega,R5.out,S5.out⟩,by simp [mu4,intOf];omega⟩
    | cons r R' =>
     have hpos:(0:Int) < ((r :: R').length:Int):=by simp only [List.length_cons];omega
     have R5:Hid ((LL++[(⟨asc,qa,qc,r :: R'⟩:LV)]).map LV.core=lvsU f (g.ls.take (k+1))):=by
      show _=_
      rw [HT.out,HL1.out,if_neg (by simp),List.map_append,HCO.out]
      rfl
     generalize r :: R'=R at *
     obtain ⟨e0,e1,e2,e3,e4,e5⟩:=c5Z S5.out.box
     go_wp2_with (at_builtin;refine wpList_LY_append rfl _ _ rfl (.slice la LL.length lc) LL rfl (S5.out.lv.later (bAl _ _)).row _ 1 ⟨asc,qa,qc,R⟩ rfl (fun j u hu=>(by rcases j with _ | _ | j<;>simp at hu<;>subst hu<;>simp)) HLT.out ?_;intro a4 n4 c4 w4 hy4 hg4;obtain rfl:n4=(LL++[(⟨asc,qa,qc,R⟩:LV)]).length:=(by obtain ⟨a',c',e⟩:=LY.len hy4;simp only [Value.slice.injEq] at e;exact e.2.1);have S8:=(S5.out.any (bAl wr (.cells #[.int .i64 asc,.slice qa R.length qc] 78)));have S7:Hid (S4 vt vn st w1 b12 H wz H4 L pa pc (LL++[(⟨asc,qa,qc,R⟩:LV)]) a4 c4 (w4.setCell ⟨b12,4,none⟩ (.slice a4 (LL++[(⟨asc,qa,qc,R⟩:LV)]).length c4))):=S8.put hy4 hg4 (HI.out.il.later (bAl _ _)) HOW.out;have bo4:=(hg4.grown.block b12 (lt_of_block S8.box) (fun e=>(by have:=S8.lv.lo _ e.symm;have:=S8.bH;have:=S8.HH;omega))).trans S8.box;obtain ⟨g0,g1,g2,g3,g4,g5⟩:=c5Z bo4;have g54:=g5 4;have HN4:Hid (LL.length+1=(LL++[(⟨asc,qa,qc,R⟩:LV)]).length):=(by show _=_;simp);clear hy4 hg4 S8 bo4 g5 d0 d1 d2 e0 e1 e2 e3 e4 e5)
     exact ⟨⟨⟨⟨rfl,rfl⟩,rfl,rfl,rfl,rfl,rfl⟩,k+1,LL++[(⟨asc,qa,qc,R⟩:LV)],a4,c4,by omega,by go_num,by rw [<- HN4.out];omega,R5.out,by rw [HN4.out];exact S7.out⟩,by simp [mu4,intOf];omega⟩
 ·obtain rfl:k=g.ls.length:=by omega
  rw [List.take_length] at hcore
  clear hS
  conv=>arg 2;whnf
  go_wp2
  refine hexit _ _ LL la lc ?_ hcore HS.out
  exact ⟨⟨rfl,rfl⟩,rfl,rfl,rfl,rfl,rfl⟩
theorem loop4_7 (g:GV)(T:List Bool)(f:Int×Int->Option Int)(gb rb tb t0 c10 b12 H:Nat)(wz:World)(H4:Nat)(vt vn:Value)(st:Int)(L:List PV)(pa:Option Addr)(pc:Nat)(w1:World)(hD:D4 g T gb tb t0 w1)(hf:∀ l∈g.ls,l.terms.filterMap (fun x=>f (1,x))=pgL T l.terms)(Q:Exit->Act->World->Prop)(hQp:∀ c (a:Act) d v w,Q (.panic c) (a.put d v) w->Q (.panic c) a w)(a:Act)(w0:World)(hI:I4 g T f gb rb tb t0 c10 b12 H wz H4 vt vn st L pa pc w1 a w0)(hexit:∀ a' w' LL la lc,K4 g gb rb tb t0 c10 b12 a'->LL.map LV.core=lvsU f g.ls->S4 vt vn st w1 b12 H wz H4 L pa pc LL la lc w'->Q (.exit 6) a' w'):Code.wp Tryz.prog (.loop (body7 2)) Q a w0 :=
 wp_loop (I4 g T f gb rb tb t0 c10 b12 H wz H4 vt vn st L pa pc w1) (mu4 g) hI fun a' w' h=>round4_7 g T f gb rb tb t0 c10 b12 H wz H4 vt vn st L pa pc w1 hD hf Q hexit hQp a' w' h
theorem kp_nil {T:List Bool}{ss:List ByteArray}{n:Nat}(hT:T.length=n):(kpU7 T ss n).length=0 ↔ T.contains true=false:=by
 rw [List.length_eq_zero_iff]
 unfold kpU7
 rw [List.filterMap_eq_nil_iff]
 constructor
 ·intro h
  rw [List.contains_eq_mem,decide_eq_false_iff_not]
  intro q
  obtain ⟨i,hi,e⟩:=List.getElem_of_mem q
  have:=h i (List.mem_range.2 (by omega))
  rw [if_pos (by simp [List.getD,hi,e])] at this
  cases this
 ·intro h i hi
  rw [List.mem_range] at hi
  rw [if_neg]
  intro q
  rw [List.contains_eq_mem,decide_eq_false_iff_not] at h
  apply h
  rw [List.getD_eq_getElem?_getD,List.getElem?_eq_getElem (by omega)] at q
  have e:T[i]=true:=by simpa using q
  rw [<- e]
  exact List.getElem_mem _
theorem PY.at7 {w:World}{a:Option Addr}{n c:Nat}{l:List PV}(hr:PY w (.slice a n c) l)(hs:∀ p∈l,SymRow w p.ra p.right):PrRow w a l:=by
 refine ⟨fun hne=>?_,hs⟩
 rcases hr.2 with ⟨e,h0⟩ | ⟨g,cap,cur,e,h1,h2,h3⟩
 ·exact absurd (List.eq_nil_of_length_eq_zero h0) hne
 ·have hc:=fun j x hx=>World.ownsRow.cells hr (g:=g) (by rw [e];rfl) j x hx
  cases e
  refine ⟨g,0,rfl,lt_of_block h2,fun i hi=>?_⟩
  obtain ⟨q1,q2,q3⟩:=proCells_get l i hi
  have r1:=hc _ _ q1
  have r2:=hc _ _ q2
  have r3:=hc _ _ q3
  rw [aNn] at r1 r2 r3
  exact ⟨by simpa using r1,by simpa [Nat.add_assoc] using r2,by simpa [Nat.add_assoc] using r3⟩
def sG (g:GV)(M:List Bool)(pa:Option Addr)(pc:Nat):GV:=⟨g.ta,g.tc,g.ts,g.na,g.nc,g.ns,g.start,pa,pc,g.ps.filter (someC M),none,0,[]⟩
theorem S1.fg {g:GV}{M:List Bool}{w1 wr:World}{b6:Nat}{pa:Option Addr}{pc:Nat}(h:S1 g w1 b6 (g.ps.filter (someC M)) pa pc wr)(hfg:FG wr g):FG wr (sG g M pa pc):=by
 have hm:∀ p∈(sG g M pa pc).ps,p∈g.ps:=fun p hp=>(List.mem_filter.1 hp).1
 exact ⟨h.py.at7 fun p hp=>hfg.p.rows p (List.mem_filter.1 hp).1,hfg.nl,Nat.le_trans (List.length_filter_le _ _) hfg.pl,fun p hp=>hfg.left p (hm p hp),fun p hp=>hfg.rl p (hm p hp),fun p hp=>hfg.sym p (hm p hp),hfg.tl⟩
theorem sG.rl {g:GV}{M T N:List Bool}{pa:Option Addr}{pc:Nat}(hM:MLst g.ps g.ns.length true M)(h:RLst (sG g M pa pc) T N):RLst (gF g fun p=>wU_ true M p.right) T N:=by
 have e:(sG g M pa pc).ps=(gF g fun p=>wU_ true M p.right).ps:=some_whole hM
 refine ⟨h.tl,h.nl,h.st,fun p hp=>h.clo p (by rw [e];exact hp),fun Ct Cn hc=>h.lst Ct Cn ?_⟩
 unfold ClR at hc ⊢
 rw [e]
 exact hc
theorem nr_of {w w':World}{M:List Bool}{n:Nat}{v:Value}(h:LBs w (clU7 M n) v w')(hn:1<=n):∃ b c,v=.slice (some ⟨b,0,none⟩) n c/\NR w' b n M:=by
 have hl:(clU7 M n).length=n:=by simp [clU7]
 obtain ⟨a,c,rfl⟩:=il_len h.il
 obtain ⟨b,o,e,hb,hc⟩:=(IL.inrow h.il) (by intro q;rw [q] at hl;simp at hl;omega)
 have ho:o=0:=by
  rcases h.il.2 with ⟨e1,h0⟩ | ⟨g,cap,cur,e1,_⟩
  ·omega
  ·cases e1
   simp only [Option.some.injEq,Addr.mk.injEq,and_true] at e
   exact e.2.symm
 subst ho
 subst e
 refine ⟨b,c,by rw [hl],hb,fun i hi=>?_⟩
 have:=hc i (by omega)
 rw [clU7_at hi] at this
 simpa using this
theorem ent_kept:EntF 62:=fun args w=>by simp
def r15S (gb n0 sm:Nat)(vt vn:Value)(cv:Int)(w':World):Prop:=w'.cell? ⟨gb,0,none⟩=some vt/\w'.cell? ⟨gb,1,none⟩=some vn/\w'.cell? ⟨gb,2,none⟩=some (.int .i64 (sm:Int))/\w'.cell? ⟨n0,sm,none⟩=some (.int .i64 cv)
structure R15 (lt ln:List ByteArray)(w8:World)(b12:Nat)(a3:Option Addr)(c3:Nat)(a4:Option Addr)(c4:Nat)(cv:Int)(wx:World):Prop where
 box:wx.heap[b12]?=some (.cells #[.slice a3 lt.length c3,.slice a4 ln.length c4,.int .i64 cv,.slice none 0 0,.slice none 0 0] 26)
 lo:w8.heap.size<=b12
 bel:Below w8.heap.size w8 wx
 gt:GS wx (.slice a3 lt.length c3) lt
 gn:GS wx (.slice a4 ln.length c4) ln
 ot:∀ j,(Value.slice a3 lt.length c3).ownBlock=some j->w8.heap.size<=j/\j≠b12
 on:∀ j,(Value.slice a4 ln.length c4).ownBlock=some j->w8.heap.size<=j/\j≠b12
 tn:∀ j,(Value.slice a3 lt.length c3).ownBlock=some j->(Value.slice a4 ln.length c4).ownBlock≠some j
theorem heap_set5Y {w:World}{b:Nat}{v0 v1 v2 v3 v4 u0 u1 u2 u3 u4:Value}{t:TypeId}(h:w.heap[b]?=some (.cells #[v0,v1,v2,v3,v4] t (0,0))):(((((w.setCell ⟨b,0,none⟩ u0).setCell ⟨b,1,none⟩ u1).setCell ⟨b,2,none⟩ u2).setCell ⟨b,3,none⟩ u3).setCell ⟨b,4,none⟩ u4).heap[b]?=some (.cells #[u0,u1,u2,u3,u4] t (0,0)):=hSt (hSt (hSt (hSt (hSt h 0 u0) 1 u1) 2 u2) 3 u3) 4 u4
theorem GS.set5Y {w:World}{v:Value}{l:List ByteArray}{b:Nat}{u0 u1 u2 u3 u4:Value}(h:GS w v l)(hb:∀ j,v.ownBlock=some j->j≠b):GS (((((w.setCell ⟨b,0,none⟩ u0).setCell ⟨b,1,none⟩ u1).setCell ⟨b,2,none⟩ u2).setCell ⟨b,3,none⟩ u3).setCell ⟨b,4,none⟩ u4) v l:=h.kept fun j hj=>by
 have hne:=hb j hj
 have hlt:=h.lt j hj
 exact (set5 (o:=w.heap[j]'hlt) (p:=b) hne (by simp) _ _ _ _ _ _ _ _ _ _).trans (by simp)
theorem below_set5Y {w wq:World}{n b:Nat}(bq:Below n w wq)(hb:n<=b)(v0 v1 v2 v3 v4:Value):Below n w (((((wq.setCell ⟨b,0,none⟩ v0).setCell ⟨b,1,none⟩ v1).setCell ⟨b,2,none⟩ v2).setCell ⟨b,3,none⟩ v3).setCell ⟨b,4,none⟩ v4) :=
 ((((bq.setCell (p:=⟨b,0,none⟩) hb _).setCell (p:=⟨b,1,none⟩) hb _).setCell (p:=⟨b,2,none⟩) hb _).setCell (p:=⟨b,3,none⟩) hb _).setCell (p:=⟨b,4,none⟩) hb _
theorem R15.late {lt ln:List ByteArray}{w8 wd w9 w10:World}{a3 a4:Option Addr}{c3 c4:Nat}(hd:Below w8.heap.size w8 wd)(g3:GBs wd lt (.slice a3 lt.length c3) w9)(g4:GBs w9 ln (.slice a4 ln.length c4) w10)(cv:Int):R15 lt ln w8 w10.heap.size a3 c3 a4 c4 cv (w10.alloc (.cells #[.slice a3 lt.length c3,.slice a4 ln.length c4,.int .i64 cv,.slice none 0 0,.slice none 0 0] 26)):=by
 have s1:=hd.size
 have s2:=g3.bel.size
 have s3:=g4.bel.size
 have b:=hd.trans ((g3.bel.trans (g4.bel.mono s2)).mono s1)
 have t10:=(g3.any g4.bel).gs
 refine ⟨heap_alloc_new _ _,b.size,b.trans ((bAl _ _).mono b.size),t10.later (bAl _ _),g4.gs.later (bAl _ _),fun j hj=>?_,fun j hj=>?_,fun j hj e=>?_⟩
 ·have h1:=g3.own j hj;have h2:=t10.lt j hj;omega
 ·have h1:=g4.own j hj;have h2:=g4.gs.lt j hj;omega
 ·have h1:=g3.gs.lt j hj;have h2:=g4.own j e;omega
theorem R15.mid {lt ln:List ByteArray}{w8 wd w9 w10:World}{a3 a4:Option Addr}{c3 c4:Nat}(hd:Below w8.heap.size w8 wd)(g3:GBs wd lt (.slice a3 lt.length c3) w9)(g4:GBs (w9.alloc zG) ln (.slice a4 ln.length c4) w10)(cv:Int):w10.heap[w9.heap.size]?=some zG/\R15 lt ln w8 w9.heap.size a3 c3 a4 c4 cv (((((w10.setCell ⟨w9.heap.size,0,none⟩ (.slice a3 lt.length c3)).setCell ⟨w9.heap.size,1,none⟩ (.slice a4 ln.length c4)).setCell ⟨w9.heap.size,2,none⟩ (.int .i64 cv)).setCell ⟨w9.heap.size,3,none⟩ (.slice none 0 0)).setCell ⟨w9.heap.size,4,none⟩ (.slice none 0 0)):=by
 have s1:=hd.size
 have s2:=g3.bel.size
 have z9:(w9.alloc zG).heap.size=w9.heap.size+1:=by simp
 have b9:Below w9.heap.size w9 w10:=(bAl w9 zG).trans (g4.bel.mono (by omega))
 have hz:w10.heap[w9.heap.size]?=some zG:=(g4.bel.block _ (by omega)).trans (heap_alloc_new _ _)
 have b:=hd.trans ((g3.bel.trans (b9.mono s2)).mono s1)
 have t10:=(g3.any b9).gs
 have o3:∀ j,(Value.slice a3 lt.length c3).ownBlock=some j->w8.heap.size<=j/\j≠w9.heap.size:=fun j hj=>by
  have h1:=g3.own j hj;have h2:=g3.gs.lt j hj;omega
 have o4:∀ j,(Value.slice a4 ln.length c4).ownBlock=some j->w8.heap.size<=j/\j≠w9.heap.size:=fun j hj=>by
  have h1:=g4.own j hj;omega
 refine ⟨hz,heap_set5Y hz,by omega,below_set5Y b (by omega) _ _ _ _ _,t10.set5Y fun j hj=>(o3 j hj).2,g4.gs.set5Y fun j hj=>(o4 j hj).2,o3,o4,fun j hj e=>?_⟩
 have h1:=g3.gs.lt j hj;have h2:=g4.own j e;omega
theorem R15.soon {lt ln:List ByteArray}{w8 wd w9 w10:World}{a3 a4:Option Addr}{c3 c4:Nat}(hd:Below w8.heap.size w8 wd)(g3:GBs (wd.alloc zG) lt (.slice a3 lt.length c3) w9)(g4:GBs w9 ln (.slice a4 ln.length c4) w10)(cv:Int):w10.heap[wd.heap.size]?=some zG/\R15 lt ln w8 wd.heap.size a3 c3 a4 c4 cv (((((w10.setCell ⟨wd.heap.size,0,none⟩ (.slice a3 lt.length c3)).setCell ⟨wd.heap.size,1,none⟩ (.slice a4 ln.length c4)).setCell ⟨wd.heap.size,2,none⟩ (.int .i64 cv)).setCell ⟨wd.heap.size,3,none⟩ (.slice none 0 0)).setCell ⟨wd.heap.size,4,none⟩ (.slice none 0 0)):=by
 have s1:=hd.size
 have zd:(wd.alloc zG).heap.size=wd.heap.size+1:=by simp
 have s2:=g3.bel.size
 have s3:=g4.bel.size
 have bd:Below wd.heap.size wd w9:=(bAl wd zG).trans (g3.bel.mono (by omega))
 have h9:w9.heap[wd.heap.size]?=some zG:=(g3.bel.block _ (by omega)).trans (heap_alloc_new _ _)
 have hz:w10.heap[wd.heap.size]?=some zG:=(g4.bel.block _ (by omega)).trans h9
 have b:=hd.trans ((bd.trans (g4.bel.mono bd.size)).mono s1)
 have t10:=(g3.any g4.bel).gs
 have o3:∀ j,(Value.slice a3 lt.length c3).ownBlock=some j->w8.heap.size<=j/\j≠wd.heap.size:=fun j hj=>by
  have h1:=g3.own j hj;omega
 have o4:∀ j,(Value.slice a4 ln.length c4).ownBlock=some j->w8.heap.size<=j/\j≠wd.heap.size:=fun j hj=>by
  have h1:=g4.own j hj;omega
 refine ⟨hz,heap_set5Y hz,by omega,below_set5Y b (by omega) _ _ _ _ _,t10.set5Y fun j hj=>(o3 j hj).2,g4.gs.set5Y fun j hj=>(o4 j hj).2,o3,o4,fun j hj e=>?_⟩
 have h1:=g3.gs.lt j hj;have h2:=g4.own j e;omega
theorem pickY {P:Program}{ops:Array Oper}{Q:Exit->Act->World->Prop}{md:Region.Mode}{S:Array Bool->World->Prop}{i j:Nat}{fuel:Nat}{listed:Array Bool}{a:Act}{w:World}{oi oj:Oper}(hr:Region.ready md ops listed=[i,j])(hi:ops.toList[i]?=some oi)(hj:ops.toList[j]?=some oj)
  (h1:∀ K':Act->World->Prop,Shut (∀ a' w',S (listed.setIfInBounds i true) w'->wpAnyX P md ops Q S fuel (listed.setIfInBounds i true) a' w'->K' a' w')->if Region.wanted oi (yielded ops a.tmps)=true then Oper.wp P oi a w K' Q else K' (a.put oi.dst undef) w)
  (h2:∀ K':Act->World->Prop,Shut (∀ a' w',S (listed.setIfInBounds j true) w'->wpAnyX P md ops Q S fuel (listed.setIfInBounds j true) a' w'->K' a' w')->if Region.wanted oj (yielded ops a.tmps)=true then Oper.wp P oj a w K' Q else K' (a.put oj.dst undef) w) :
  wpAnyX P md ops Q S (fuel+1) listed a w:=by
 refine ⟨fun h0=>(by rw [hr] at h0;cases h0),fun k hk=>?_⟩
 rw [hr] at hk
 simp only [List.mem_cons,List.not_mem_nil,or_false] at hk
 rcases hk with rfl | rfl
 ·exact wpOp_step (by rw [<- Array.getElem?_toList];exact hi) (fun K' hK=>h1 K' (fun a' w' hS hW=>hK a' w' ⟨hS,hW⟩))
 ·exact wpOp_step (by rw [<- Array.getElem?_toList];exact hj) (fun K' hK=>h2 K' (fun a' w' hS hW=>hK a' w' ⟨hS,hW⟩))
end Go.Proofs.YtlfiohdhcmmjbaaGreatDoor
