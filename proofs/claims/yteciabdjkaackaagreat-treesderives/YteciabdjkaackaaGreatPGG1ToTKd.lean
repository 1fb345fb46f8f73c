import Derived.Test.YteciabdjkaackaaGreatPGG0ToGG2
import Derived.Test.YteciabdjkaackaaGreatPTT2ToRegX
import Derived.Test.YteciabdjkaackaaGreatPGOkToGCheckR
namespace Go.Proofs.YteciabdjkaackaaGreat
set_option linter.unusedVariables false
open Go.RowKit
theorem pro_get:∀ (l:List PV) (i:Nat),i < l.length->(pCl l)[i*3]?=some (.int .i64 (l.getD i .none).left)/\(pCl l)[i*3+1]?=some (.slice (l.getD i .none).ra (l.getD i .none).right.length (l.getD i .none).rc)/\(pCl l)[i*3+2]?=some (.int .i64 (l.getD i .none).prec)
 | [],i,h=>by simp at h
 | q :: r,0,_=>by simp [pCl]
 | q :: r,i+1,h=>by
  have:=pro_get r i (by simpa using h)
  have e:pCl (q :: r)=.int .i64 q.left :: .slice q.ra q.right.length q.rc :: .int .i64 q.prec :: pCl r:=rfl
  rw [e,show (i+1)*3=i*3+1+1+1 by omega]
  simpa using this
theorem lev_get:∀ (l:List LV) (i:Nat),i < l.length->(levCells l)[i*2]?=some (.int .i64 (l.getD i .none).assoc)/\(levCells l)[i*2+1]?=some (.slice (l.getD i .none).ta (l.getD i .none).terms.length (l.getD i .none).tc)
 | [],i,h=>by simp at h
 | q :: r,0,_=>by simp [levCells]
 | q :: r,i+1,h=>by
  have:=lev_get r i (by simpa using h)
  have e:levCells (q :: r)=.int .i64 q.assoc :: .slice q.ta q.terms.length q.tc :: levCells r:=rfl
  rw [e,show (i+1)*2=i*2+1+1 by omega]
  simpa using this
theorem k_next {X w':World}{b:Nat}{C:Array Value}(o:Oth X w')(h:X.heap[b]?=some (.cells C 63 (0,0))):w'.heap[b]?=some (.cells C 63 (0,0)):=(o.blk _ _ _ h okT_gram).trans h
theorem newO3 (w:World)(o1 o2 o3:Obj):(((w.alloc o1).alloc o2).alloc o3).drew.heap[w.heap.size+1+1]?=some o3:=by
 have h:=heap_alloc_new ((w.alloc o1).alloc o2) o3
 have e:((w.alloc o1).alloc o2).heap.size=w.heap.size+1+1:=by simp
 rw [e] at h
 exact h
theorem keepS {g:GV}{b:Nat}{wr:World}(h:wr.heap[b]?=some (gBox g)):wr.cell? ⟨b,0,none⟩=some (.slice g.ta g.ts.length g.tc)/\wr.cell? ⟨b,1,none⟩=some (.slice g.na g.ns.length g.nc)/\wr.cell? ⟨b,2,none⟩=some (.int .i64 g.start) :=
 ⟨(cQa h).trans rfl,(cQa h).trans rfl,(cQa h).trans rfl⟩
theorem set5 {w:World}{b p:Nat}{o:Obj}(hn:b≠p)(h:w.heap[b]?=some o)(i0 i1 i2 i3 i4:Nat)(v0 v1 v2 v3 v4:Value):(((((w.setCell ⟨p,i0,none⟩ v0).setCell ⟨p,i1,none⟩ v1).setCell ⟨p,i2,none⟩ v2).setCell ⟨p,i3,none⟩ v3).setCell ⟨p,i4,none⟩ v4).heap[b]?=some o:=by
 rw [Below.heap_setCell _ _ _ _ hn,Below.heap_setCell _ _ _ _ hn,Below.heap_setCell _ _ _ _ hn,Below.heap_setCell _ _ _ _ hn,Below.heap_setCell _ _ _ _ hn]
 exact h
theorem alloc_size1 (w:World)(o:Obj):(w.alloc o).heap.size=w.heap.size+1:=by simp
structure GX (w:World)(x:GV):Prop where
 t:∃ b,x.ta=some ⟨b,0,none⟩/\TB w b x.ts
 n:∃ b,x.na=some ⟨b,0,none⟩/\TB w b x.ns
 p:PY w (.slice x.pa x.ps.length x.pc) x.ps
 pe:∀ p∈x.ps,∃ b,RaC p b/\YB w b p.right
 l:LY w (.slice x.la x.ls.length x.lc) x.ls
 le:∀ p∈x.ls,∃ b,p.ta=some ⟨b,0,none⟩/\NB w b p.terms
theorem PY.at {w:World}{a:Option Addr}{n c:Nat}{l:List PV}(hr:PY w (.slice a n c) l)(he:∀ p∈l,SymRow w p.ra p.right):PrRow w a l:=by
 refine ⟨fun hne=>?_,he⟩
 rcases hr.2 with ⟨e,h0⟩ | ⟨g,cap,cur,e,h1,h2,h3⟩
 ·exact absurd (List.eq_nil_of_length_eq_zero h0) hne
 ·have hc:=fun j x hx=>World.ownsRow.cells hr (g:=g) (by rw [e];rfl) j x hx
  cases e
  refine ⟨g,0,rfl,lt_of_block h2,fun i hi=>?_⟩
  obtain ⟨q1,q2,q3⟩:=pro_get l i hi
  have r1:=hc _ _ q1
  have r2:=hc _ _ q2
  have r3:=hc _ _ q3
  rw [aNn] at r1 r2 r3
  exact ⟨by simpa using r1,by simpa [Nat.add_assoc] using r2,by simpa [Nat.add_assoc] using r3⟩
theorem LY.at {w:World}{a:Option Addr}{n c:Nat}{l:List LV}(hr:LY w (.slice a n c) l)(he:∀ p∈l,InRow w p.ta p.terms):LvRow w a l:=by
 refine ⟨fun hne=>?_,he⟩
 rcases hr.2 with ⟨e,h0⟩ | ⟨g,cap,cur,e,h1,h2,h3⟩
 ·exact absurd (List.eq_nil_of_length_eq_zero h0) hne
 ·have hc:=fun j x hx=>World.ownsRow.cells hr (g:=g) (by rw [e];rfl) j x hx
  cases e
  refine ⟨g,0,rfl,lt_of_block h2,fun i hi=>?_⟩
  obtain ⟨q1,q2⟩:=lev_get l i hi
  have r1:=hc _ _ q1
  have r2:=hc _ _ q2
  rw [aNn] at r1 r2
  exact ⟨by simpa using r1,by simpa [Nat.add_assoc] using r2⟩
theorem PY.cap {w:World}{a:Option Addr}{n c:Nat}{l:List PV}(h:PY w (.slice a n c) l):l.length<=c:=by
 rcases h.2 with ⟨e,h0⟩ | ⟨g,cap,cur,e,h1,h2,h3,h4⟩
 ·omega
 ·cases e;omega
theorem GX.at {w:World}{n:Nat}{g x:GV}(h:GX w x)(hs:SameG g x){w0:World}(hg:GAt n w0 g):GAt n w x/\x.ps.length<=x.pc:=by
 have hp:x.ps.length=g.ps.length:=by simpa using congrArg List.length hs.ps
 have hl:x.ls.length=g.ls.length:=by simpa using congrArg List.length hs.ls
 obtain ⟨tb,te,tt⟩:=h.t
 obtain ⟨nb,ne,nt⟩:=h.n
 refine ⟨⟨te ▸ tt.row,ne ▸ nt.row,h.p.at fun p hp=>?_,h.l.at fun p hp=>?_,?_,?_,by rw [hs.ts];exact hg.tl,by rw [hs.ns];exact hg.nl,by rw [hp];exact hg.pl,by rw [hl];exact hg.ll,?_,?_⟩,h.p.cap⟩
 ·obtain ⟨b,e,y⟩:=h.pe p hp;rw [e.1];exact y.row
 ·obtain ⟨b,e,y⟩:=h.le p hp;rw [e];exact y.row
 ·rw [hs.ts];exact hg.tz
 ·rw [hs.ns];exact hg.nz
 ·intro p hp'
  have:p.core∈g.ps.map PV.core:=hs.ps ▸ List.mem_map_of_mem hp'
  obtain ⟨q,hq,e⟩:=List.mem_map.1 this
  have e':q.right=p.right:=congrArg (·.2.1) e
  rw [<- e'];exact hg.rl q hq
 ·intro p hp'
  have:p.core∈g.ls.map LV.core:=hs.ls ▸ List.mem_map_of_mem hp'
  obtain ⟨q,hq,e⟩:=List.mem_map.1 this
  have e':q.terms=p.terms:=congrArg (·.2) e
  rw [<- e'];exact hg.vl q hq
theorem GX.later {w w':World}{x:GV}(h:GX w x)(hb:Below w.heap.size w w'):GX w' x :=
 ⟨by obtain ⟨b,e,y⟩:=h.t;exact ⟨b,e,y.oth (Oth.ofBelow hb)⟩,by obtain ⟨b,e,y⟩:=h.n;exact ⟨b,e,y.oth (Oth.ofBelow hb)⟩,h.p.later hb,fun p hp=>by obtain ⟨b,e,y⟩:=h.pe p hp;exact ⟨b,e,y.oth (Oth.ofBelow hb)⟩,h.l.later hb,fun p hp=>by obtain ⟨b,e,y⟩:=h.le p hp;exact ⟨b,e,y.oth (Oth.ofBelow hb)⟩⟩
theorem drew_size (w:World):w.drew.heap.size=w.heap.size:=rfl
theorem set5_block {w:World}{p:Nat}(h:w.heap[p]?=some zG)(v0 v1 v2 v3 v4:Value):(((((w.setCell ⟨p,0,none⟩ v0).setCell ⟨p,1,none⟩ v1).setCell ⟨p,2,none⟩ v2).setCell ⟨p,3,none⟩ v3).setCell ⟨p,4,none⟩ v4).heap[p]?=some (.cells #[v0,v1,v2,v3,v4] 63):=hSt (hSt (hSt (hSt (hSt h 0 v0) 1 v1) 2 v2) 3 v3) 4 v4
theorem GW.fin {B:Nat}{w0 w:World}{q m1 m2 m4:Nat}{g:GV}{p t0 n0:Nat}{P:List PV}{L:List LV}{pa:Option Addr}{pc:Nat}{la:Option Addr}{lc:Nat}{wr:World}(h:GW B w0 w q m1 m2 m4 g p t0 n0 P L pa pc la lc wr)(v0 v1 v2 v3 v4:Value) :
  GX (((((wr.setCell ⟨w.heap.size+1,0,none⟩ v0).setCell ⟨w.heap.size+1,1,none⟩ v1).setCell ⟨w.heap.size+1,2,none⟩ v2).setCell ⟨w.heap.size+1,3,none⟩ v3).setCell ⟨w.heap.size+1,4,none⟩ v4) ⟨some ⟨t0,0,none⟩,g.ts.length+3,g.ts,some ⟨n0,0,none⟩,g.ns.length+3,g.ns,g.start,pa,pc,P,la,lc,L⟩ /\
  HGOut B w0 w (((((wr.setCell ⟨w.heap.size+1,0,none⟩ v0).setCell ⟨w.heap.size+1,1,none⟩ v1).setCell ⟨w.heap.size+1,2,none⟩ v2).setCell ⟨w.heap.size+1,3,none⟩ v3).setCell ⟨w.heap.size+1,4,none⟩ v4) q m1 m2 m4:=by
 have hb:Below w.heap.size wr (((((wr.setCell ⟨w.heap.size+1,0,none⟩ v0).setCell ⟨w.heap.size+1,1,none⟩ v1).setCell ⟨w.heap.size+1,2,none⟩ v2).setCell ⟨w.heap.size+1,3,none⟩ v3).setCell ⟨w.heap.size+1,4,none⟩ v4) :=
  (((((Below.refl _ _).setCell (Nat.le_succ _) _).setCell (Nat.le_succ _) _).setCell (Nat.le_succ _) _).setCell (Nat.le_succ _) _).setCell (Nat.le_succ _) _
 have kk:∀ (k:Nat) (C:Array Value) (t:TypeId),wr.heap[k]?=some (.cells C t (0,0))->t≠63->(((((wr.setCell ⟨w.heap.size+1,0,none⟩ v0).setCell ⟨w.heap.size+1,1,none⟩ v1).setCell ⟨w.heap.size+1,2,none⟩ v2).setCell ⟨w.heap.size+1,3,none⟩ v3).setCell ⟨w.heap.size+1,4,none⟩ v4).heap[k]?=some (.cells C t (0,0)):=fun k C t hk ht =>
  set5 (fun e=>by subst e;rw [h.res] at hk;simp at hk;exact ht hk.2.symm) hk _ _ _ _ _ _ _ _ _ _
 obtain ⟨V,E,hv⟩:=h.hg
 refine ⟨⟨⟨t0,rfl,?_⟩,⟨n0,rfl,?_⟩,?_,?_,?_,?_⟩,⟨⟨V,E,hv.kept hb.size (hb.mono h.Bw) fun k C t hk _ _ h3=>(kk k C t hk h3).trans hk.symm⟩,⟨Nat.le_trans h.sz hb.size,fun b C t hb2 ht=>(hb.block b (lt_of_block hb2)).trans (h.ot.blk b C t hb2 ht)⟩,h.bel.trans (hb.mono h.Bw)⟩⟩
 ·obtain ⟨zs,z1,z2⟩:=h.tb;exact ⟨zs,kk _ _ _ z1 (by decide),z2⟩
 ·obtain ⟨zs,z1,z2⟩:=h.nb;exact ⟨zs,kk _ _ _ z1 (by decide),z2⟩
 ·exact row_kept h.py fun k C _ hk=>(kk k C _ hk (by decide)).trans hk.symm
 ·intro x hx
  obtain ⟨b,e,zs,z1,z2⟩:=h.pe x hx;exact ⟨b,e,zs,kk _ _ _ z1 (by decide),z2⟩
 ·exact row_kept h.ly fun k C _ hk=>(kk k C _ hk (by decide)).trans hk.symm
 ·intro x hx
  obtain ⟨b,e,zs,z1,z2⟩:=h.le x hx;exact ⟨b,e,zs,kk _ _ _ z1 (by decide),z2⟩
theorem gw_new {B:Nat}{w0 w w2:World}{q m1 m2 m4:Nat}{V:Nat->Value}{E:Nat->List HE}{g:GV}{t0 n0:Nat}(hv:HG B w0 w2 q V E m1 m2 m4)(box:w2.heap[w.heap.size]?=some (gBox g))(res:w2.heap[w.heap.size+1]?=some zG)(tb:TB w2 t0 g.ts)(nb:TB w2 n0 g.ns)(bel:Below B w w2)(Bw:B<=w.heap.size)(ot:Oth w w2)(hz:w.heap.size+1 < w2.heap.size) :
  GW B w0 w q m1 m2 m4 g w2.heap.size t0 n0 [] [] none 0 none 0 (w2.alloc (oG g t0 n0 none 0 0 none 0 0)):=by
 have hb:=bAl w2 (oG g t0 n0 none 0 0 none 0 0)
 have o:=Oth.ofBelow hb
 refine ⟨⟨V,E,hv.later hb⟩,(o.blk _ _ _ box okT_gram).trans box,(o.blk _ _ _ res okT_gram).trans res,heap_alloc_new _ _,tb.oth o,nb.oth o,PY.nil _,fun k hk=>by simp [Value.ownBlock] at hk,fun x hx=>(by cases hx),LY.nil _,fun k hk=>by simp [Value.ownBlock] at hk,fun x hx=>(by cases hx),bel.trans (hb.mono (by omega)),by rw [alloc_size1];omega,Bw,by omega,ot.trans o,by omega,by omega⟩
theorem gw_set {B:Nat}{w0 w w2:World}{q m1 m2 m4:Nat}{V:Nat->Value}{E:Nat->List HE}{g:GV}{p t0 n0:Nat}(hv:HG B w0 w2 q V E m1 m2 m4)(box:w2.heap[w.heap.size]?=some (gBox g))(res:w2.heap[w.heap.size+1]?=some zG)(tb:TB w2 t0 g.ts)(nb:TB w2 n0 g.ns)(bel:Below B w w2)(Bw:B<=w.heap.size)(ot:Oth w w2)(hz:w.heap.size+1 < w2.heap.size)(hp:w2.heap[p]?=some zG)(hpw:w.heap.size+1 < p) :
  GW B w0 w q m1 m2 m4 g p t0 n0 [] [] none 0 none 0 (((((w2.setCell ⟨p,0,none⟩ (.slice (some ⟨t0,0,none⟩) g.ts.length (g.ts.length+3))).setCell ⟨p,1,none⟩ (.slice (some ⟨n0,0,none⟩) g.ns.length (g.ns.length+3))).setCell ⟨p,2,none⟩ (.int .i64 g.start)).setCell ⟨p,3,none⟩ (.slice none 0 0)).setCell ⟨p,4,none⟩ (.slice none 0 0)):=by
 have hb:Below w.heap.size w2 (((((w2.setCell ⟨p,0,none⟩ (.slice (some ⟨t0,0,none⟩) g.ts.length (g.ts.length+3))).setCell ⟨p,1,none⟩ (.slice (some ⟨n0,0,none⟩) g.ns.length (g.ns.length+3))).setCell ⟨p,2,none⟩ (.int .i64 g.start)).setCell ⟨p,3,none⟩ (.slice none 0 0)).setCell ⟨p,4,none⟩ (.slice none 0 0)) :=
  (((((Below.refl _ _).setCell (by show _<=p;omega) _).setCell (by show _<=p;omega) _).setCell (by show _<=p;omega) _).setCell (by show _<=p;omega) _).setCell (by show _<=p;omega) _
 have kk:∀ (k:Nat) (o:Obj),k≠p->w2.heap[k]?=some o->(((((w2.setCell ⟨p,0,none⟩ (.slice (some ⟨t0,0,none⟩) g.ts.length (g.ts.length+3))).setCell ⟨p,1,none⟩ (.slice (some ⟨n0,0,none⟩) g.ns.length (g.ns.length+3))).setCell ⟨p,2,none⟩ (.int .i64 g.start)).setCell ⟨p,3,none⟩ (.slice none 0 0)).setCell ⟨p,4,none⟩ (.slice none 0 0)).heap[k]?=some o:=fun k o hk ho=>set5 hk ho _ _ _ _ _ _ _ _ _ _
 have kt:∀ (k:Nat) (C:Array Value) (t:TypeId),w2.heap[k]?=some (.cells C t (0,0))->t≠63->k≠p:=fun k C t hk ht e=>by subst e;rw [hp] at hk;simp at hk;exact ht hk.2.symm
 refine ⟨⟨V,E,hv.kept hb.size (hb.mono Bw) fun k C t hk _ _ h3=>(kk k _ (kt k C t hk h3) hk).trans hk.symm⟩,kk _ _ (by omega) box,kk _ _ (by omega) res,set5_block hp _ _ _ _ _,?_,?_,PY.nil _,fun k hk=>by simp [Value.ownBlock] at hk,fun x hx=>(by cases hx),LY.nil _,fun k hk=>by simp [Value.ownBlock] at hk,fun x hx=>(by cases hx),bel.trans (hb.mono Bw),Nat.le_trans (by omega) hb.size,Bw,by omega,⟨Nat.le_trans ot.size hb.size,fun b C t hb2 ht=>(hb.block b (lt_of_block hb2)).trans (ot.blk b C t hb2 ht)⟩,by omega,by omega⟩
 ·obtain ⟨zs,z1,z2⟩:=tb;exact ⟨zs,kk _ _ (kt _ _ _ z1 (by decide)) z1,z2⟩
 ·obtain ⟨zs,z1,z2⟩:=nb;exact ⟨zs,kk _ _ (kt _ _ _ z1 (by decide)) z1,z2⟩
set_option maxRecDepth 100000 in
set_option linter.unusedSimpArgs false in
set_option maxHeartbeats 3000000 in
theorem hg_gram {B:Nat}{w0 w:World}{q:Nat}{V:Nat->Value}{E:Nat->List HE}{n1 n2 n4:Nat}(h:HG B w0 w q V E n1 n2 n4)(h1:n1<=100000000000)(h2:n2<=100000000000)(h4:n4<=100000000000)(g:GV)(hfi:GFine g)(hg:∀ wr,Below B w wr->GAt 140737488355328 wr g) :
  Calls Tryz.prog 25 #[.pointer (some ⟨q,0,none⟩),g.val] w fun e w'=>∃ x:GV,e=.returned x.val/\SameG g x/\GX w' x/\HGOut B w0 w w' q (n1+g.ls.length) (n2+2) (n4+g.ps.length):=by
 have hbx:Below w.heap.size w ((w.alloc (gBox g)).alloc (.cells #[.slice none 0 0,.slice none 0 0,.int .i64 0,.slice none 0 0,.slice none 0 0] 63)):=(bAl w _).alloc (bAl w _).size _
 have hsz:=h.sz
 have hA:Hid (∀ wr,Below ((w.alloc (gBox g)).alloc (.cells #[.slice none 0 0,.slice none 0 0,.int .i64 0,.slice none 0 0,.slice none 0 0] 63)).heap.size ((w.alloc (gBox g)).alloc (.cells #[.slice none 0 0,.slice none 0 0,.int .i64 0,.slice none 0 0,.slice none 0 0] 63)) wr->HG B w0 wr q V E n1 n2 n4/\GAt 140737488355328 wr g/\Below B w wr):=fun wr hb=>by
  have b1:=hbx.trans (hb.mono hbx.size)
  exact ⟨h.later b1,hg wr (b1.mono hsz),b1.mono hsz⟩
 have HGA:Hid (∀ wr,Below B w wr->GAt 140737488355328 wr g):=hg
 have hk0:((w.alloc (gBox g)).alloc (.cells #[.slice none 0 0,.slice none 0 0,.int .i64 0,.slice none 0 0,.slice none 0 0] 63)).heap[w.heap.size]?=some (gBox g):=((bAl (w.alloc (gBox g)) _).block _ (lt_of_block (heap_alloc_new w (gBox g)))).trans (heap_alloc_new w (gBox g))
 have hk1:((w.alloc (gBox g)).alloc (.cells #[.slice none 0 0,.slice none 0 0,.int .i64 0,.slice none 0 0,.slice none 0 0] 63)).heap[w.heap.size+1]?=some (.cells #[.slice none 0 0,.slice none 0 0,.int .i64 0,.slice none 0 0,.slice none 0 0] 63):=by
  have:=heap_alloc_new (w.alloc (gBox g)) (.cells #[.slice none 0 0,.slice none 0 0,.int .i64 0,.slice none 0 0,.slice none 0 0] 63)
  rw [alloc_size1] at this
  exact this
 have K0:Hid (∀ wr,Below ((w.alloc (gBox g)).alloc (.cells #[.slice none 0 0,.slice none 0 0,.int .i64 0,.slice none 0 0,.slice none 0 0] 63)).heap.size ((w.alloc (gBox g)).alloc (.cells #[.slice none 0 0,.slice none 0 0,.int .i64 0,.slice none 0 0,.slice none 0 0] 63)) wr->wr.heap[w.heap.size]?=some (gBox g)/\wr.heap[w.heap.size+1]?=some (.cells #[.slice none 0 0,.slice none 0 0,.int .i64 0,.slice none 0 0,.slice none 0 0] 63)):=fun wr hb=>⟨(hb.block _ (lt_of_block hk0)).trans hk0,(hb.block _ (lt_of_block hk1)).trans hk1⟩
 have HT:Hid ((∀ s∈g.ts,s.size<=maxLen)/\(∀ s∈g.ns,s.size<=maxLen)/\g.ts.length<=8796093022000/\g.ns.length<=8796093022000):=⟨(hg w (Below.refl _ _)).tz,(hg w (Below.refl _ _)).nz,hfi.tl,hfi.nl⟩
 have HFI:Hid (GFine g):=hfi
 have GD1:Hid True:=trivial
 have K1:Hid True:=trivial
 have K2:Hid True:=trivial
 have hn0:w.heap.size≠w.heap.size+1+1:=by omega
 have hn1:Hid True:=trivial
 clear h hg hbx hk0 hk1 hfi
 go_enter Tryz.func25,Tryz.ntmps25
 go_wp2
 rename_i Q' K hK
 have KEY:∀ (p t0 n0:Nat) (wr:World) (s8 s9 s10 s11 s12 s13 s14 s15 s16 s17 s18:Value),GW B w0 w q n1 (n2+1+1) n4 g p t0 n0 [] [] none 0 none 0 wr->K { tmps:=#[.pointer (some ⟨q,0,none⟩),g.val,undef,.pointer (some ⟨w.heap.size,0,none⟩),.pointer (some ⟨w.heap.size+1,0,none⟩),.pointer (some ⟨p,0,none⟩),undef,undef,s8,s9,s10,s11,s12,s13,s14,s15,s16,s17,s18,undef,undef,undef,undef,undef,undef,undef,undef,undef,undef,undef,undef,undef,undef,undef,undef,undef,undef,undef,undef,undef,undef,undef,undef,undef,undef,undef,undef,undef,undef,undef,undef,undef,undef,undef,undef,undef,undef,undef,undef,undef,undef,undef,undef,undef,undef,undef,undef,undef,undef,undef,undef,undef,undef,undef,undef,undef,undef,undef,undef,undef],defers:=[] } wr:=by
  intro p t0 n0 wr s8 s9 s10 s11 s12 s13 s14 s15 s16 s17 s18 hW
  refine hK _ _ ?_
  go_wp2
  go_loopw [6] (fun z wr=>∃ (P:List PV) (pa:Option Addr) (pc:Nat),P.length<=g.ps.length/\z=.int .i64 P.length/\P.map PV.core=(g.ps.take P.length).map PV.core/\GW B w0 w q n1 (n2+1+1) (n4+P.length) g p t0 n0 P [] pa pc none 0 wr) (fun z _=>g.ps.length - (intOf z).toNat)
  case atStart=>exact ⟨[],none,0,Nat.zero_le _,rfl,rfl,hW⟩
  case round =>
   clear hW
   obtain ⟨P,pa,pc,hP,rfl,hcore,hW⟩:=hrel
   have GWr:Hid (GW B w0 w q n1 (n2+1+1) (n4+P.length) g p t0 n0 P [] pa pc none 0 wr):=hW
   have b3:wr.cell? ⟨w.heap.size,3,none⟩=some (.slice g.pa g.ps.length g.pc):=(cQa hW.box).trans rfl
   have o3:wr.cell? ⟨p,3,none⟩=some (.slice pa P.length pc):=(cQa hW.out).trans rfl
   have ga:=HGA.out wr hW.bel
   have hpl:=HFI.out.pl
   by_cases hlt:P.length < g.ps.length
   ·obtain ⟨pb,po,hpa,_,hpc⟩:=ga.p.cells (by intro e;rw [e] at hlt;simp at hlt)
    have KP:Hid (∀ w',Below B w w'->w'.heap[w.heap.size]?=some (gBox g)->w'.cell? ⟨w.heap.size,3,none⟩=some (.slice (some ⟨pb,po,none⟩) g.ps.length g.pc)/\w'.cell? ⟨pb,po+P.length*3,none⟩=some (.int .i64 (g.ps.getD P.length .none).left)/\w'.cell? ⟨pb,po+P.length*3+1,none⟩=some (.slice (g.ps.getD P.length .none).ra (g.ps.getD P.length .none).right.length (g.ps.getD P.length .none).rc)/\w'.cell? ⟨pb,po+P.length*3+2,none⟩=some (.int .i64 (g.ps.getD P.length .none).prec)):=fun w' hb hbx=>by
     obtain ⟨b2,o2,e2,_,hc2⟩:=(HGA.out w' hb).p.cells (by intro e;rw [e] at hlt;simp at hlt)
     rw [hpa] at e2
     simp only [Option.some.injEq,Addr.mk.injEq,and_true] at e2
     obtain ⟨rfl,rfl⟩:=e2
     refine ⟨?_,(hc2 _ hlt).1,(hc2 _ hlt).2.1,(hc2 _ hlt).2.2⟩
     rw [cQa hbx,<- hpa]
     rfl
    have hmem:g.ps.getD P.length .none∈g.ps:=by simp [List.getD,hlt]
    have hrow:=ga.p.rows _ hmem
    have hrl:=HFI.out.rl _ hmem
    have CORE:Hid (∀ y:PV,y.core=(g.ps.getD P.length .none).core->(P++[y]).map PV.core=(g.ps.take (P++[y]).length).map PV.core):=fun y hy=>by
     rw [List.length_append,List.length_singleton,List.take_succ_eq_append_getElem hlt,List.map_append,List.map_append,hcore]
     simp [hy,List.getD,hlt]
    obtain ⟨p0,p1,p2⟩:=hpc _ hlt
    rw [hpa] at b3
    obtain ⟨V',E',hv⟩:=hW.hg
    have HV:Hid (HG B w0 wr q V' E' n1 (n2+1+1) (n4+P.length)):=hv
    clear hpc hmem hcore hv ga hW hpa
    generalize g.ps.getD P.length .none=x at *
    obtain ⟨pl,pra,prc,pr,pp⟩:=x
    simp only at p0 p1 p2 hrow hrl KP
    have HR:Hid (SymRow wr pra pr):=hrow
    have HPL:Hid (P.length<=3518437208780):=by show _<=_;omega
    have G3:Hid True:=trivial
    have K4:Hid True:=trivial
    have G5:Hid True:=trivial
    clear hrow
    go_wp2
    refine wp_region_x (S:=SX 26 (fun w'=>w'.cell? ⟨w.heap.size,3,none⟩=some (.slice (some ⟨pb,po,none⟩) g.ps.length g.pc)/\w'.cell? ⟨pb,po+P.length*3,none⟩=some (.int .i64 pl)/\w'.cell? ⟨pb,po+P.length*3+1,none⟩=some (.slice pra pr.length prc)/\w'.cell? ⟨pb,po+P.length*3+2,none⟩=some (.int .i64 pp)) (fun w'=>w'.cell? ⟨p,3,none⟩=some (.slice pa P.length pc))) (by kernel_rfl) ?_
    have hs0:Hid ((fun w'=>w'.cell? ⟨w.heap.size,3,none⟩=some (.slice (some ⟨pb,po,none⟩) g.ps.length g.pc)/\w'.cell? ⟨pb,po+P.length*3,none⟩=some (.int .i64 pl)/\w'.cell? ⟨pb,po+P.length*3+1,none⟩=some (.slice pra pr.length prc)/\w'.cell? ⟨pb,po+P.length*3+2,none⟩=some (.int .i64 pp)) wr.drew):=KP.out _ (GWr.out.later (by go_grown)).bel (GWr.out.later (by go_grown)).box
    have hs1:Hid ((fun w'=>w'.cell? ⟨p,3,none⟩=some (.slice pa P.length pc)) wr.drew):=o3
    refine wXt (m:=26) (i:=0) (v:=?_) rfl (by kernel_rfl) (by kernel_rfl) (by decide) (by decide +kernel) (by decide +kernel) (fun _ _ _ h=>h) (by kernel_rfl) (Or.inl ⟨by rfl,?_⟩) (SX.both hs0.out hs1.out) ?_
    rotate_left
    ·(intro w hSw;(try dsimp only at hSw);go_simp;try (with_reducible rfl))
    (try simp only [Act.put,List.setIfInBounds_toArray,List.set_cons_zero,List.set_cons_succ])
    refine wXt (m:=26) (i:=1) (v:=?_) rfl (by kernel_rfl) (by kernel_rfl) (by decide) (by decide +kernel) (by decide +kernel) (fun _ _ _ h=>h) (by kernel_rfl) (Or.inl ⟨by rfl,?_⟩) (SX.both hs0.out hs1.out) ?_
    rotate_left
    ·(intro w hSw;(try dsimp only at hSw);go_simp;try (with_reducible rfl))
    (try simp only [Act.put,List.setIfInBounds_toArray,List.set_cons_zero,List.set_cons_succ])
    refine wXt (m:=26) (i:=2) (v:=?_) rfl (by kernel_rfl) (by kernel_rfl) (by decide) (by decide +kernel) (by decide +kernel) (fun _ _ _ h=>h) (by kernel_rfl) (Or.inl ⟨by rfl,?_⟩) (SX.both hs0.out hs1.out) ?_
    rotate_left
    ·(intro w hSw;(try dsimp only at hSw);go_simp;try (with_reducible rfl))
    (try simp only [Act.put,List.setIfInBounds_toArray,List.set_cons_zero,List.set_cons_succ])
    refine wXt (m:=26) (i:=3) (v:=?_) rfl (by kernel_rfl) (by kernel_rfl) (by decide) (by decide +kernel) (by decide +kernel) (fun _ _ _ h=>h) (by kernel_rfl) (Or.inl ⟨by rfl,?_⟩) (SX.both hs0.out hs1.out) ?_
    rotate_left
    ·(intro w hSw;(try dsimp only at hSw);go_simp;try (with_reducible rfl))
    (try simp only [Act.put,List.setIfInBounds_toArray,List.set_cons_zero,List.set_cons_succ])
    refine wXt (m:=26) (i:=4) (v:=?_) rfl (by kernel_rfl) (by kernel_rfl) (by decide) (by decide +kernel) (by decide +kernel) (fun _ _ _ h=>h) (by kernel_rfl) (Or.inl ⟨by rfl,?_⟩) (SX.both hs0.out hs1.out) ?_
    rotate_left
    ·(intro w hSw;(try dsimp only at hSw);go_simp;try (with_reducible rfl))
    (try simp only [Act.put,List.setIfInBounds_toArray,List.set_cons_zero,List.set_cons_succ])
    refine wXt (m:=26) (i:=5) (v:=?_) rfl (by kernel_rfl) (by kernel_rfl) (by decide) (by decide +kernel) (by decide +kernel) (fun _ _ _ h=>h) (by kernel_rfl) (Or.inl ⟨by rfl,?_⟩) (SX.both hs0.out hs1.out) ?_
    rotate_left
    ·(intro w hSw;(try dsimp only at hSw);go_simp;try (with_reducible rfl))
    (try simp only [Act.put,List.setIfInBounds_toArray,List.set_cons_zero,List.set_cons_succ])
    refine wXt (m:=26) (i:=6) (v:=?_) rfl (by kernel_rfl) (by kernel_rfl) (by decide) (by decide +kernel) (by decide +kernel) (fun _ _ _ h=>h) (by kernel_rfl) (Or.inl ⟨by rfl,?_⟩) (SX.both hs0.out hs1.out) ?_
    rotate_left
    ·(intro w hSw;(try dsimp only at hSw);go_simp;try (with_reducible rfl))
    (try simp only [Act.put,List.setIfInBounds_toArray,List.set_cons_zero,List.set_cons_succ])
    refine wXt (m:=26) (i:=7) (v:=?_) rfl (by kernel_rfl) (by kernel_rfl) (by decide) (by decide +kernel) (by decide +kernel) (fun _ _ _ h=>h) (by kernel_rfl) (Or.inl ⟨by rfl,?_⟩) (SX.both hs0.out hs1.out) ?_
    rotate_left
    ·(intro w hSw;(try dsimp only at hSw);go_simp;try (with_reducible rfl))
    (try simp only [Act.put,List.setIfInBounds_toArray,List.set_cons_zero,List.set_cons_succ])
    refine wXt (m:=26) (i:=8) (v:=?_) rfl (by kernel_rfl) (by kernel_rfl) (by decide) (by decide +kernel) (by decide +kernel) (fun _ _ _ h=>h) (by kernel_rfl) (Or.inl ⟨by rfl,?_⟩) (SX.both hs0.out hs1.out) ?_
    rotate_left
    ·(intro w hSw;(try dsimp only at hSw);go_simp;try (with_reducible rfl))
    (try simp only [Act.put,List.setIfInBounds_toArray,List.set_cons_zero,List.set_cons_succ])
    refine wXt (m:=26) (i:=9) (v:=?_) rfl (by kernel_rfl) (by kernel_rfl) (by decide) (by decide +kernel) (by decide +kernel) (fun _ _ _ h=>h) (by kernel_rfl) (Or.inl ⟨by rfl,?_⟩) (SX.both hs0.out hs1.out) ?_
    rotate_left
    ·(intro w hSw;(try dsimp only at hSw);go_simp;try (with_reducible rfl))
    (try simp only [Act.put,List.setIfInBounds_toArray,List.set_cons_zero,List.set_cons_succ])
    refine wXt (m:=26) (i:=10) (v:=?_) rfl (by kernel_rfl) (by kernel_rfl) (by decide) (by decide +kernel) (by decide +kernel) (fun _ _ _ h=>h) (by kernel_rfl) (Or.inl ⟨by rfl,?_⟩) (SX.both hs0.out hs1.out) ?_
    rotate_left
    ·(intro w hSw;(try dsimp only at hSw);go_simp;try (with_reducible rfl))
    (try simp only [Act.put,List.setIfInBounds_toArray,List.set_cons_zero,List.set_cons_succ])
    refine wXt (m:=26) (i:=11) (v:=?_) rfl (by kernel_rfl) (by kernel_rfl) (by decide) (by decide +kernel) (by decide +kernel) (fun _ _ _ h=>h) (by kernel_rfl) (Or.inl ⟨by rfl,?_⟩) (SX.both hs0.out hs1.out) ?_
    rotate_left
    ·(intro w hSw;(try dsimp only at hSw);go_simp;try (with_reducible rfl))
    (try simp only [Act.put,List.setIfInBounds_toArray,List.set_cons_zero,List.set_cons_succ])
    refine wXt (m:=26) (i:=12) (v:=?_) rfl (by kernel_rfl) (by kernel_rfl) (by decide) (by decide +kernel) (by decide +kernel) (fun _ _ _ h=>h) (by kernel_rfl) (Or.inl ⟨by rfl,?_⟩) (SX.both hs0.out hs1.out) ?_
    rotate_left
    ·(intro w hSw;(try dsimp only at hSw);go_simp;try (with_reducible rfl))
    (try simp only [Act.put,List.setIfInBounds_toArray,List.set_cons_zero,List.set_cons_succ])
    refine wXt (m:=26) (i:=13) (v:=?_) rfl (by kernel_rfl) (by kernel_rfl) (by decide) (by decide +kernel) (by decide +kernel) (fun _ _ _ h=>h) (by kernel_rfl) (Or.inl ⟨by rfl,?_⟩) (SX.both hs0.out hs1.out) ?_
    rotate_left
    ·(intro w hSw;(try dsimp only at hSw);go_simp;try (with_reducible rfl))
    (try simp only [Act.put,List.setIfInBounds_toArray,List.set_cons_zero,List.set_cons_succ])
    refine wXt (m:=26) (i:=14) (v:=?_) rfl (by kernel_rfl) (by kernel_rfl) (by decide) (by decide +kernel) (by decide +kernel) (fun _ _ _ h=>h) (by kernel_rfl) (Or.inl ⟨by rfl,?_⟩) (SX.both hs0.out hs1.out) ?_
    rotate_left
    ·(intro w hSw;(try dsimp only at hSw);go_simp;try (with_reducible rfl))
    (try simp only [Act.put,List.setIfInBounds_toArray,List.set_cons_zero,List.set_cons_succ])
    refine wXt (m:=26) (i:=16) (v:=?_) rfl (by kernel_rfl) (by kernel_rfl) (by decide) (by decide +kernel) (by decide +kernel) (fun _ _ _ h=>h) (by kernel_rfl) (Or.inl ⟨by rfl,?_⟩) (SX.both hs0.out hs1.out) ?_
    rotate_left
    ·(intro w hSw;(try dsimp only at hSw);go_simp;try (with_reducible rfl))
    (try simp only [Act.put,List.setIfInBounds_toArray,List.set_cons_zero,List.set_cons_succ])
    refine wXt (m:=26) (i:=17) (v:=?_) rfl (by kernel_rfl) (by kernel_rfl) (by decide) (by decide +kernel) (by decide +kernel) (fun _ _ _ h=>h) (by kernel_rfl) (Or.inl ⟨by rfl,?_⟩) (SX.both hs0.out hs1.out) ?_
    rotate_left
    ·(intro w hSw;(try dsimp only at hSw);go_simp;try (with_reducible rfl))
    (try simp only [Act.put,List.setIfInBounds_toArray,List.set_cons_zero,List.set_cons_succ])
    refine wXt (m:=26) (i:=18) (v:=?_) rfl (by kernel_rfl) (by kernel_rfl) (by decide) (by decide +kernel) (by decide +kernel) (fun _ _ _ h=>h) (by kernel_rfl) (Or.inl ⟨by rfl,?_⟩) (SX.both hs0.out hs1.out) ?_
    rotate_left
    ·(intro w hSw;(try dsimp only at hSw);go_simp;try (with_reducible rfl))
    (try simp only [Act.put,List.setIfInBounds_toArray,List.set_cons_zero,List.set_cons_succ])
    refine wXt (m:=26) (i:=19) (v:=?_) rfl (by kernel_rfl) (by kernel_rfl) (by decide) (by decide +kernel) (by decide +kernel) (fun _ _ _ h=>h) (by kernel_rfl) (Or.inl ⟨by rfl,?_⟩) (SX.both hs0.out hs1.out) ?_
    rotate_left
    ·(intro w hSw;(try dsimp only at hSw);go_simp;try (with_reducible rfl))
    (try simp only [Act.put,List.setIfInBounds_toArray,List.set_cons_zero,List.set_cons_succ])
    refine wXt (m:=26) (i:=20) (v:=?_) rfl (by kernel_rfl) (by kernel_rfl) (by decide) (by decide +kernel) (by decide +kernel) (fun _ _ _ h=>h) (by kernel_rfl) (Or.inl ⟨by rfl,?_⟩) (SX.both hs0.out hs1.out) ?_
    rotate_left
    ·(intro w hSw;(try dsimp only at hSw);go_simp;try (with_reducible rfl))
    (try simp only [Act.put,List.setIfInBounds_toArray,List.set_cons_zero,List.set_cons_succ])
    refine wXt (m:=26) (i:=21) (v:=?_) rfl (by kernel_rfl) (by kernel_rfl) (by decide) (by decide +kernel) (by decide +kernel) (fun _ _ _ h=>h) (by kernel_rfl) (Or.inl ⟨by rfl,?_⟩) (SX.both hs0.out hs1.out) ?_
    rotate_left
    ·(intro w hSw;(try dsimp only at hSw);go_simp;try (with_reducible rfl))
    (try simp only [Act.put,List.setIfInBounds_toArray,List.set_cons_zero,List.set_cons_succ])
    refine wX1 (j:=15) (by decide +kernel) rfl (fun K' hK=>?_)
    refine sCX rfl 64 #[.pointer (some ⟨q,0,none⟩),.slice pra pr.length prc] _ (run_syms (v0:=.pointer (some ⟨q,0,none⟩)) (v1:=.slice pra pr.length prc) (by rfl) (by rfl) (by rfl) _) (hg_sym (HV.out.later (by go_grown)) (by omega) pra prc pr hrl (HR.out.later (Nat.le_refl _) (by go_grown))) ?_
    rintro e w3 ⟨rfl,o',yb'⟩
    have G3:Hid (GW B w0 w q n1 (n2+1+1) (n4+P.length+1) g p t0 n0 P [] pa pc none 0 w3):=(GWr.out.later (by go_grown)).given o'
    have Y3:Hid (YB w3 wr.heap.size pr):=yb'
    have c3:w3.cell? ⟨p,3,none⟩=some (.slice pa P.length pc):=(cQa G3.out.out).trans rfl
    clear o' yb'
    refine ⟨_,rfl,hK.out _ _ (SX.both (KP.out _ G3.out.bel G3.out.box) c3) ?_⟩
    clear hK K'
    (try simp only [Act.put,List.setIfInBounds_toArray,List.set_cons_zero,List.set_cons_succ])
    refine wXt (m:=26) (i:=22) (v:=?_) rfl (by kernel_rfl) (by kernel_rfl) (by decide) (by decide +kernel) (by decide +kernel) (fun _ _ _ h=>h) (by kernel_rfl) (Or.inl ⟨by rfl,?_⟩) (SX.both (KP.out _ G3.out.bel G3.out.box) c3) ?_
    rotate_left
    ·(intro w hSw;(try dsimp only at hSw);go_simp;try (with_reducible rfl))
    (try simp only [Act.put,List.setIfInBounds_toArray,List.set_cons_zero,List.set_cons_succ])
    refine wX1 (j:=23) (by decide +kernel) rfl (fun K' hK=>?_)
    go_simp
    refine hK.out _ _ (SX.both (KP.out _ (G3.out.later (bAl _ _)).bel (G3.out.later (bAl _ _)).box) ((cQa (G3.out.later (bAl _ _)).out).trans rfl)) ?_
    clear hK K'
    (try simp only [Act.put,List.setIfInBounds_toArray,List.set_cons_zero,List.set_cons_succ])
    refine wX1 (j:=24) (by decide +kernel) rfl (fun K' hK=>?_)
    refine step_py_append (by rfl) _ _ (by rfl) (.slice pa P.length pc) P (by rfl) (G3.out.later (bAl _ _)).py w3.heap.size 1 ⟨pl,some ⟨wr.heap.size,0,none⟩,pr.length+3,pr,pp⟩ (by rfl) (new_cells3 w3 _ _ _ _) HPL.out ?_
    intro a4 n4' c4 w4 hy4 hg4
    obtain ⟨c4',f4,g5,k4⟩:=G3.out.app ⟨wr.heap.size,(by refine And.intro rfl ?_;exact Nat.le_add_right _ _),Y3.out⟩ a4 n4' c4 w4 hy4 hg4
    refine hK.out _ _ (SX.both (KP.out _ k4.1 k4.2) c4') ?_
    clear hK K'
    (try simp only [Act.put,List.setIfInBounds_toArray,List.set_cons_zero,List.set_cons_succ])
    refine wXt (m:=26) (i:=25) (v:=?_) rfl (by kernel_rfl) (by kernel_rfl) (by decide) (by decide +kernel) (by decide +kernel) (fun _ _ _ h=>h) (by kernel_rfl) (Or.inl ⟨by rfl,?_⟩) (SX.both (KP.out _ k4.1 k4.2) c4') ?_
    rotate_left
    ·(intro w hSw;(try dsimp only at hSw);go_simp;try (with_reducible rfl))
    (try simp only [Act.put,List.setIfInBounds_toArray,List.set_cons_zero,List.set_cons_succ])
    refine wX1 (j:=26) (by decide +kernel) rfl (fun K' hK=>?_)
    go_simp
    refine hK.out _ _ (SX.one (KP.out _ g5.bel g5.box) (by decide +kernel)) ?_
    clear hK K'
    (try simp only [Act.put,List.setIfInBounds_toArray,List.set_cons_zero,List.set_cons_succ])
    refine wXd (by decide +kernel) ?_
    have G5:Hid _:=g5
    clear g5 k4 c4' f4 hy4 hg4 c3 hs0 hs1
    go_wp2
    go_roundw
    case rel=>exact ⟨P++[⟨pl,some ⟨wr.heap.size,0,none⟩,pr.length+3,pr,pp⟩],a4,c4,by rw [List.length_append,List.length_singleton];omega,by rw [List.length_append,List.length_singleton];go_num,CORE.out _ rfl,by rw [show n4+(P++[(⟨pl,some ⟨wr.heap.size,0,none⟩,pr.length+3,pr,pp⟩:PV)]).length=n4+P.length+1 by rw [List.length_append,List.length_singleton];omega];exact G5.out⟩
    case measure=>simp [intOf];omega
   ·have PCORE:Hid (P.map PV.core=g.ps.map PV.core):=by
     show _=_
     rw [hcore,show P.length=g.ps.length by omega,List.take_length]
    clear hcore o3
    go_wp2
    go_loopw [7] (fun z wr=>∃ (L:List LV) (la:Option Addr) (lc:Nat),L.length<=g.ls.length/\z=.int .i64 L.length/\L.map LV.core=(g.ls.take L.length).map LV.core/\GW B w0 w q (n1+L.length) (n2+1+1) (n4+P.length) g p t0 n0 P L pa pc la lc wr) (fun z _=>g.ls.length - (intOf z).toNat)
    case atStart=>exact ⟨[],none,0,Nat.zero_le _,rfl,rfl,GWr.out⟩
    case round =>
     clear GWr hW ga b3 hpl
     obtain ⟨L,la,lc,hL,rfl,hcore,hW⟩:=hrel
     have GWr:Hid (GW B w0 w q (n1+L.length) (n2+1+1) (n4+P.length) g p t0 n0 P L pa pc la lc wr):=hW
     have b3:wr.cell? ⟨w.heap.size,4,none⟩=some (.slice g.la g.ls.length g.lc):=(cQa hW.box).trans rfl
     have o3:wr.cell? ⟨p,4,none⟩=some (.slice la L.length lc):=(cQa hW.out).trans rfl
     have ga:=HGA.out wr hW.bel
     have hpl:=HFI.out.ll
     by_cases hlt2:L.length < g.ls.length
     ·obtain ⟨pb,po,hpa,_,hpc⟩:=ga.l.cells (by intro e;rw [e] at hlt2;simp at hlt2)
      have KP:Hid (∀ w',Below B w w'->w'.heap[w.heap.size]?=some (gBox g)->w'.cell? ⟨w.heap.size,4,none⟩=some (.slice (some ⟨pb,po,none⟩) g.ls.length g.lc)/\w'.cell? ⟨pb,po+L.length*2,none⟩=some (.int .i64 (g.ls.getD L.length .none).assoc)/\w'.cell? ⟨pb,po+L.length*2+1,none⟩=some (.slice (g.ls.getD L.length .none).ta (g.ls.getD L.length .none).terms.length (g.ls.getD L.length .none).tc)):=fun w' hb hbx=>by
       obtain ⟨b2,o2,e2,_,hc2⟩:=(HGA.out w' hb).l.cells (by intro e;rw [e] at hlt2;simp at hlt2)
       rw [hpa] at e2
       simp only [Option.some.injEq,Addr.mk.injEq,and_true] at e2
       obtain ⟨rfl,rfl⟩:=e2
       refine ⟨?_,(hc2 _ hlt2).1,(hc2 _ hlt2).2⟩
       rw [cQa hbx,<- hpa]
       rfl
      have hmem:g.ls.getD L.length .none∈g.ls:=by simp [List.getD,hlt2]
      have hrow:=ga.l.rows _ hmem
      have hrl:=HFI.out.vl _ hmem
      have CORE:Hid (∀ y:LV,y.core=(g.ls.getD L.length .none).core->(L++[y]).map LV.core=(g.ls.take (L++[y]).length).map LV.core):=fun y hy=>by
       rw [List.length_append,List.length_singleton,List.take_succ_eq_append_getElem hlt2,List.map_append,List.map_append,hcore]
       simp [hy,List.getD,hlt2]
      obtain ⟨p0,p1⟩:=hpc _ hlt2
      rw [hpa] at b3
      obtain ⟨V',E',hv⟩:=hW.hg
      have HV:Hid (HG B w0 wr q V' E' (n1+L.length) (n2+1+1) (n4+P.length)):=hv
      clear hpc hmem hcore hv ga hW hpa
      generalize g.ls.getD L.length .none=x at *
      obtain ⟨pl,pra,prc,pr⟩:=x
      simp only at p0 p1 hrow hrl KP
      have HR:Hid (InRow wr pra pr):=hrow
      have HPL:Hid (L.length<=4398046510976):=by show _<=_;omega
      clear hrow
      go_wp2
      refine wp_region_x (S:=SX 20 (fun w'=>w'.cell? ⟨w.heap.size,4,none⟩=some (.slice (some ⟨pb,po,none⟩) g.ls.length g.lc)/\w'.cell? ⟨pb,po+L.length*2,none⟩=some (.int .i64 pl)/\w'.cell? ⟨pb,po+L.length*2+1,none⟩=some (.slice pra pr.length prc)) (fun w'=>w'.cell? ⟨p,4,none⟩=some (.slice la L.length lc))) (by kernel_rfl) ?_
      have hs0:Hid ((fun w'=>w'.cell? ⟨w.heap.size,4,none⟩=some (.slice (some ⟨pb,po,none⟩) g.ls.length g.lc)/\w'.cell? ⟨pb,po+L.length*2,none⟩=some (.int .i64 pl)/\w'.cell? ⟨pb,po+L.length*2+1,none⟩=some (.slice pra pr.length prc)) wr.drew):=KP.out _ (GWr.out.later (by go_grown)).bel (GWr.out.later (by go_grown)).box
      have hs1:Hid ((fun w'=>w'.cell? ⟨p,4,none⟩=some (.slice la L.length lc)) wr.drew):=o3
      refine wXt (m:=20) (i:=0) (v:=?_) rfl (by kernel_rfl) (by kernel_rfl) (by decide) (by decide +kernel) (by decide +kernel) (fun _ _ _ h=>h) (by kernel_rfl) (Or.inl ⟨by rfl,?_⟩) (SX.both hs0.out hs1.out) ?_
      rotate_left
      ·(intro w hSw;(try dsimp only at hSw);go_simp;try (with_reducible rfl))
      (try simp only [Act.put,List.setIfInBounds_toArray,List.set_cons_zero,List.set_cons_succ])
      refine wXt (m:=20) (i:=1) (v:=?_) rfl (by kernel_rfl) (by kernel_rfl) (by decide) (by decide +kernel) (by decide +kernel) (fun _ _ _ h=>h) (by kernel_rfl) (Or.inl ⟨by rfl,?_⟩) (SX.both hs0.out hs1.out) ?_
      rotate_left
      ·(intro w hSw;(try dsimp only at hSw);go_simp;try (with_reducible rfl))
      (try simp only [Act.put,List.setIfInBounds_toArray,List.set_cons_zero,List.set_cons_succ])
      refine wXt (m:=20) (i:=2) (v:=?_) rfl (by kernel_rfl) (by kernel_rfl) (by decide) (by decide +kernel) (by decide +kernel) (fun _ _ _ h=>h) (by kernel_rfl) (Or.inl ⟨by rfl,?_⟩) (SX.both hs0.out hs1.out) ?_
      rotate_left
      ·(intro w hSw;(try dsimp only at hSw);go_simp;try (with_reducible rfl))
      (try simp only [Act.put,List.setIfInBounds_toArray,List.set_cons_zero,List.set_cons_succ])
      refine wXt (m:=20) (i:=3) (v:=?_) rfl (by kernel_rfl) (by kernel_rfl) (by decide) (by decide +kernel) (by decide +kernel) (fun _ _ _ h=>h) (by kernel_rfl) (Or.inl ⟨by rfl,?_⟩) (SX.both hs0.out hs1.out) ?_
      rotate_left
      ·(intro w hSw;(try dsimp only at hSw);go_simp;try (with_reducible rfl))
      (try simp only [Act.put,List.setIfInBounds_toArray,List.set_cons_zero,List.set_cons_succ])
      refine wXt (m:=20) (i:=4) (v:=?_) rfl (by kernel_rfl) (by kernel_rfl) (by decide) (by decide +kernel) (by decide +kernel) (fun _ _ _ h=>h) (by kernel_rfl) (Or.inl ⟨by rfl,?_⟩) (SX.both hs0.out hs1.out) ?_
      rotate_left
      ·(intro w hSw;(try dsimp only at hSw);go_simp;try (with_reducible rfl))
      (try simp only [Act.put,List.setIfInBounds_toArray,List.set_cons_zero,List.set_cons_succ])
      refine wXt (m:=20) (i:=5) (v:=?_) rfl (by kernel_rfl) (by kernel_rfl) (by decide) (by decide +kernel) (by decide +kernel) (fun _ _ _ h=>h) (by kernel_rfl) (Or.inl ⟨by rfl,?_⟩) (SX.both hs0.out hs1.out) ?_
      rotate_left
      ·(intro w hSw;(try dsimp only at hSw);go_simp;try (with_reducible rfl))
      (try simp only [Act.put,List.setIfInBounds_toArray,List.set_cons_zero,List.set_cons_succ])
      refine wXt (m:=20) (i:=6) (v:=?_) rfl (by kernel_rfl) (by kernel_rfl) (by decide) (by decide +kernel) (by decide +kernel) (fun _ _ _ h=>h) (by kernel_rfl) (Or.inl ⟨by rfl,?_⟩) (SX.both hs0.out hs1.out) ?_
      rotate_left
      ·(intro w hSw;(try dsimp only at hSw);go_simp;try (with_reducible rfl))
      (try simp only [Act.put,List.setIfInBounds_toArray,List.set_cons_zero,List.set_cons_succ])
      refine wXt (m:=20) (i:=7) (v:=?_) rfl (by kernel_rfl) (by kernel_rfl) (by decide) (by decide +kernel) (by decide +kernel) (fun _ _ _ h=>h) (by kernel_rfl) (Or.inl ⟨by rfl,?_⟩) (SX.both hs0.out hs1.out) ?_
      rotate_left
      ·(intro w hSw;(try dsimp only at hSw);go_simp;try (with_reducible rfl))
      (try simp only [Act.put,List.setIfInBounds_toArray,List.set_cons_zero,List.set_cons_succ])
      refine wXt (m:=20) (i:=8) (v:=?_) rfl (by kernel_rfl) (by kernel_rfl) (by decide) (by decide +kernel) (by decide +kernel) (fun _ _ _ h=>h) (by kernel_rfl) (Or.inl ⟨by rfl,?_⟩) (SX.both hs0.out hs1.out) ?_
      rotate_left
      ·(intro w hSw;(try dsimp only at hSw);go_simp;try (with_reducible rfl))
      (try simp only [Act.put,List.setIfInBounds_toArray,List.set_cons_zero,List.set_cons_succ])
      refine wXt (m:=20) (i:=9) (v:=?_) rfl (by kernel_rfl) (by kernel_rfl) (by decide) (by decide +kernel) (by decide +kernel) (fun _ _ _ h=>h) (by kernel_rfl) (Or.inl ⟨by rfl,?_⟩) (SX.both hs0.out hs1.out) ?_
      rotate_left
      ·(intro w hSw;(try dsimp only at hSw);go_simp;try (with_reducible rfl))
      (try simp only [Act.put,List.setIfInBounds_toArray,List.set_cons_zero,List.set_cons_succ])
      refine wXt (m:=20) (i:=10) (v:=?_) rfl (by kernel_rfl) (by kernel_rfl) (by decide) (by decide +kernel) (by decide +kernel) (fun _ _ _ h=>h) (by kernel_rfl) (Or.inl ⟨by rfl,?_⟩) (SX.both hs0.out hs1.out) ?_
      rotate_left
      ·(intro w hSw;(try dsimp only at hSw);go_simp;try (with_reducible rfl))
      (try simp only [Act.put,List.setIfInBounds_toArray,List.set_cons_zero,List.set_cons_succ])
      refine wXt (m:=20) (i:=11) (v:=?_) rfl (by kernel_rfl) (by kernel_rfl) (by decide) (by decide +kernel) (by decide +kernel) (fun _ _ _ h=>h) (by kernel_rfl) (Or.inl ⟨by rfl,?_⟩) (SX.both hs0.out hs1.out) ?_
      rotate_left
      ·(intro w hSw;(try dsimp only at hSw);go_simp;try (with_reducible rfl))
      (try simp only [Act.put,List.setIfInBounds_toArray,List.set_cons_zero,List.set_cons_succ])
      refine wXt (m:=20) (i:=12) (v:=?_) rfl (by kernel_rfl) (by kernel_rfl) (by decide) (by decide +kernel) (by decide +kernel) (fun _ _ _ h=>h) (by kernel_rfl) (Or.inl ⟨by rfl,?_⟩) (SX.both hs0.out hs1.out) ?_
      rotate_left
      ·(intro w hSw;(try dsimp only at hSw);go_simp;try (with_reducible rfl))
      (try simp only [Act.put,List.setIfInBounds_toArray,List.set_cons_zero,List.set_cons_succ])
      refine wXt (m:=20) (i:=13) (v:=?_) rfl (by kernel_rfl) (by kernel_rfl) (by decide) (by decide +kernel) (by decide +kernel) (fun _ _ _ h=>h) (by kernel_rfl) (Or.inl ⟨by rfl,?_⟩) (SX.both hs0.out hs1.out) ?_
      rotate_left
      ·(intro w hSw;(try dsimp only at hSw);go_simp;try (with_reducible rfl))
      (try simp only [Act.put,List.setIfInBounds_toArray,List.set_cons_zero,List.set_cons_succ])
      refine wXt (m:=20) (i:=14) (v:=?_) rfl (by kernel_rfl) (by kernel_rfl) (by decide) (by decide +kernel) (by decide +kernel) (fun _ _ _ h=>h) (by kernel_rfl) (Or.inl ⟨by rfl,?_⟩) (SX.both hs0.out hs1.out) ?_
      rotate_left
      ·(intro w hSw;(try dsimp only at hSw);go_simp;try (with_reducible rfl))
      (try simp only [Act.put,List.setIfInBounds_toArray,List.set_cons_zero,List.set_cons_succ])
      refine wX1 (j:=15) (by decide +kernel) rfl (fun K' hK=>?_)
      refine sCX rfl 26 #[.pointer (some ⟨q,0,none⟩),.slice pra pr.length prc] _ (run_ints (v0:=.pointer (some ⟨q,0,none⟩)) (v1:=.slice pra pr.length prc) (by rfl) (by rfl) (by rfl) _) (hg_int (HV.out.later (by go_grown)) (by omega) pra prc pr hrl (HR.out.later (by go_grown))) ?_
      rintro e w3 ⟨rfl,o',yb'⟩
      have G3:Hid (GW B w0 w q (n1+L.length+1) (n2+1+1) (n4+P.length) g p t0 n0 P L pa pc la lc w3):=(GWr.out.later (by go_grown)).given o'
      have Y3:Hid (NB w3 wr.heap.size pr):=yb'
      have c3:w3.cell? ⟨p,4,none⟩=some (.slice la L.length lc):=(cQa G3.out.out).trans rfl
      clear o' yb'
      refine ⟨_,rfl,hK.out _ _ (SX.both (KP.out _ G3.out.bel G3.out.box) c3) ?_⟩
      clear hK K'
      (try simp only [Act.put,List.setIfInBounds_toArray,List.set_cons_zero,List.set_cons_succ])
      refine wXt (m:=20) (i:=16) (v:=?_) rfl (by kernel_rfl) (by kernel_rfl) (by decide) (by decide +kernel) (by decide +kernel) (fun _ _ _ h=>h) (by kernel_rfl) (Or.inl ⟨by rfl,?_⟩) (SX.both (KP.out _ G3.out.bel G3.out.box) c3) ?_
      rotate_left
      ·(intro w hSw;(try dsimp only at hSw);go_simp;try (with_reducible rfl))
      (try simp only [Act.put,List.setIfInBounds_toArray,List.set_cons_zero,List.set_cons_succ])
      refine wX1 (j:=17) (by decide +kernel) rfl (fun K' hK=>?_)
      go_simp
      refine hK.out _ _ (SX.both (KP.out _ (G3.out.later (bAl _ _)).bel (G3.out.later (bAl _ _)).box) ((cQa (G3.out.later (bAl _ _)).out).trans rfl)) ?_
      clear hK K'
      (try simp only [Act.put,List.setIfInBounds_toArray,List.set_cons_zero,List.set_cons_succ])
      refine wX1 (j:=18) (by decide +kernel) rfl (fun K' hK=>?_)
      refine step_ly_append (by rfl) _ _ (by rfl) (.slice la L.length lc) L (by rfl) (G3.out.later (bAl _ _)).ly w3.heap.size 1 ⟨pl,some ⟨wr.heap.size,0,none⟩,pr.length+3,pr⟩ (by rfl) (new_cells2 w3 _ _ _) HPL.out ?_
      intro a4 n4' c4 w4 hy4 hg4
      obtain ⟨c4',f4,g5,k4⟩:=G3.out.appL ⟨wr.heap.size,rfl,Y3.out⟩ a4 n4' c4 w4 hy4 hg4
      refine hK.out _ _ (SX.both (KP.out _ k4.1 k4.2) c4') ?_
      clear hK K'
      (try simp only [Act.put,List.setIfInBounds_toArray,List.set_cons_zero,List.set_cons_succ])
      refine wXt (m:=20) (i:=19) (v:=?_) rfl (by kernel_rfl) (by kernel_rfl) (by decide) (by decide +kernel) (by decide +kernel) (fun _ _ _ h=>h) (by kernel_rfl) (Or.inl ⟨by rfl,?_⟩) (SX.both (KP.out _ k4.1 k4.2) c4') ?_
      rotate_left
      ·(intro w hSw;(try dsimp only at hSw);go_simp;try (with_reducible rfl))
      (try simp only [Act.put,List.setIfInBounds_toArray,List.set_cons_zero,List.set_cons_succ])
      refine wX1 (j:=20) (by decide +kernel) rfl (fun K' hK=>?_)
      go_simp
      refine hK.out _ _ (SX.one (KP.out _ g5.bel g5.box) (by decide +kernel)) ?_
      clear hK K'
      (try simp only [Act.put,List.setIfInBounds_toArray,List.set_cons_zero,List.set_cons_succ])
      refine wXd (by decide +kernel) ?_
      have G5:Hid _:=g5
      clear g5 k4 c4' f4 hy4 hg4 c3 hs0 hs1
      go_wp2
      go_roundw
      case rel=>exact ⟨L++[⟨pl,some ⟨wr.heap.size,0,none⟩,pr.length+3,pr⟩],a4,c4,by rw [List.length_append,List.length_singleton];omega,by rw [List.length_append,List.length_singleton];go_num,CORE.out _ rfl,by rw [show n1+(L++[(⟨pl,some ⟨wr.heap.size,0,none⟩,pr.length+3,pr⟩:LV)]).length=n1+L.length+1 by rw [List.length_append,List.length_singleton];omega];exact G5.out⟩
      case measure=>simp [intOf];omega
     ·have LCORE:Hid (L.map LV.core=g.ls.map LV.core):=by
       show _=_
       rw [hcore,show L.length=g.ls.length by omega,List.take_length]
      have q0:wr.cell? ⟨p,0,none⟩=some (.slice (some ⟨t0,0,none⟩) g.ts.length (g.ts.length+3)):=(cQa hW.out).trans rfl
      have q1:wr.cell? ⟨p,1,none⟩=some (.slice (some ⟨n0,0,none⟩) g.ns.length (g.ns.length+3)):=(cQa hW.out).trans rfl
      have q2:wr.cell? ⟨p,2,none⟩=some (.int .i64 g.start):=(cQa hW.out).trans rfl
      have q3:wr.cell? ⟨p,3,none⟩=some (.slice pa P.length pc):=(cQa hW.out).trans rfl
      have r0:wr.cell? ⟨w.heap.size+1,0,none⟩=some (.slice none 0 0):=(cQa hW.res).trans rfl
      have r1:wr.cell? ⟨w.heap.size+1,1,none⟩=some (.slice none 0 0):=(cQa hW.res).trans rfl
      have r2:wr.cell? ⟨w.heap.size+1,2,none⟩=some (.int .i64 0):=(cQa hW.res).trans rfl
      have r3:wr.cell? ⟨w.heap.size+1,3,none⟩=some (.slice none 0 0):=(cQa hW.res).trans rfl
      have r4:wr.cell? ⟨w.heap.size+1,4,none⟩=some (.slice none 0 0):=(cQa hW.res).trans rfl
      have y0:wr.frozen? ⟨w.heap.size+1,0,none⟩=false:=by simp [World.frozen?,hW.res]
      have y1:wr.frozen? ⟨w.heap.size+1,1,none⟩=false:=by simp [World.frozen?,hW.res]
      have y2:wr.frozen? ⟨w.heap.size+1,2,none⟩=false:=by simp [World.frozen?,hW.res]
      have y3:wr.frozen? ⟨w.heap.size+1,3,none⟩=false:=by simp [World.frozen?,hW.res]
      have y4:wr.frozen? ⟨w.heap.size+1,4,none⟩=false:=by simp [World.frozen?,hW.res]
      have hz:w.heap.size+1 < wr.heap.size:=lt_of_block hW.res
      have HW:Hid (GW B w0 w q (n1+L.length) (n2+1+1) (n4+P.length) g p t0 n0 P L pa pc la lc wr):=hW
      clear hW hcore ga
      go_wp2
      refine bodyPost_ret (v:=.agg #[.slice (some ⟨t0,0,none⟩) g.ts.length (g.ts.length+3),.slice (some ⟨n0,0,none⟩) g.ns.length (g.ns.length+3),.int .i64 g.start,.slice pa P.length pc,.slice la L.length lc]) (by simp [results,Tryz.results25,go_sem,r0,r1,r2,r3,r4,hz]) rfl ?_
      have eP:P.length=g.ps.length:=by simpa using congrArg List.length PCORE.out
      have eL:L.length=g.ls.length:=by simpa using congrArg List.length LCORE.out
      obtain ⟨f1,f2⟩:=HW.out.fin (.slice (some ⟨t0,0,none⟩) g.ts.length (g.ts.length+3)) (.slice (some ⟨n0,0,none⟩) g.ns.length (g.ns.length+3)) (.int .i64 g.start) (.slice pa P.length pc) (.slice la L.length lc)
      rw [<- eP,<- eL]
      exact ⟨⟨some ⟨t0,0,none⟩,g.ts.length+3,g.ts,some ⟨n0,0,none⟩,g.ns.length+3,g.ns,g.start,pa,pc,P,la,lc,L⟩,rfl,⟨rfl,rfl,rfl,PCORE.out,LCORE.out⟩,f1,f2⟩
 clear hK
 go_region_held3 (fun w'=>w'.cell? ⟨w.heap.size,0,none⟩=some (.slice g.ta g.ts.length g.tc)/\w'.cell? ⟨w.heap.size,1,none⟩=some (.slice g.na g.ns.length g.nc)/\w'.cell? ⟨w.heap.size,2,none⟩=some (.int .i64 g.start)) (first | (with_reducible exact keepS (set5 hn1 (K2.out _ (Below.refl _ _)).1 _ _ _ _ _ _ _ _ _ _)) | (with_reducible exact keepS (set5 hn0 (K2.out _ (Below.refl _ _)).1 _ _ _ _ _ _ _ _ _ _)) | (with_reducible exact keepS (K2.out _ (Below.refl _ _)).1) | (with_reducible exact keepS (K1.out _ (Below.refl _ _)).1) | (with_reducible exact keepS (K2.out _ (by go_grown)).1) | (with_reducible exact keepS (K1.out _ (by go_grown)).1) | exact keepS (K0.out _ (by go_grown)).1) (first
  | (go_at_call 63;guard_hyp GD1:Hid True;refine (hg_str (hA.out _ (by go_grown)).1 (by omega) g.ta g.tc g.ts HT.out.2.2.1 HT.out.1 (hA.out _ (by go_grown)).2.1.t).mono ?_;rintro e w1 ⟨rfl,o1,tb1⟩;obtain ⟨V1,E1,hg1⟩:=o1.ex;have BW1:Hid (Below B w w1):=(hA.out _ (by go_grown)).2.2.trans o1.bel;have A1:Hid (∀ wr,Below w1.heap.size w1 wr->HG B w0 wr q V1 E1 n1 (n2+1) n4/\GAt 140737488355328 wr g/\Below B w wr):=(fun wr hb=>⟨hg1.later hb,HGA.out wr (BW1.out.trans (hb.mono hg1.sz)),BW1.out.trans (hb.mono hg1.sz)⟩);have T1:Hid (∀ wr,Below w1.heap.size w1 wr->TB wr _ g.ts):=(fun wr hb=>tb1.oth (Oth.ofBelow hb));have K1:Hid (∀ wr,Below w1.heap.size w1 wr->wr.heap[w.heap.size]?=some (gBox g)/\wr.heap[w.heap.size+1]?=some (.cells #[.slice none 0 0,.slice none 0 0,.int .i64 0,.slice none 0 0,.slice none 0 0] 63)):=(fun wr hb=>by have e0:=k_next o1.oth (K0.out _ (by go_grown)).1;have e1:=k_next o1.oth (K0.out _ (by go_grown)).2;exact ⟨(hb.block _ (lt_of_block e0)).trans e0,(hb.block _ (lt_of_block e1)).trans e1⟩);have c0:w1.cell? ⟨w.heap.size,0,none⟩=some (.slice g.ta g.ts.length g.tc):=(cQa (K1.out w1 (Below.refl _ _)).1).trans rfl;have c1:w1.cell? ⟨w.heap.size,1,none⟩=some (.slice g.na g.ns.length g.nc):=(cQa (K1.out w1 (Below.refl _ _)).1).trans rfl;have c2:w1.cell? ⟨w.heap.size,2,none⟩=some (.int .i64 g.start):=(cQa (K1.out w1 (Below.refl _ _)).1).trans rfl;have hz1:w.heap.size+1 < w1.heap.size:=lt_of_block (K1.out w1 (Below.refl _ _)).2;have hn1:w.heap.size≠w1.heap.size:=(by omega);have O1:Hid _:=o1.oth;clear GD1 o1 tb1 hg1)
  | (go_at_call 63;refine (hg_str (A1.out _ (by go_grown)).1 (by omega) g.na g.nc g.ns HT.out.2.2.2 HT.out.2.1 (A1.out _ (by go_grown)).2.1.n_).mono ?_;rintro e w2 ⟨rfl,o2,tb2⟩;obtain ⟨V2,E2,hg2⟩:=o2.ex;have G2:Hid (HG B w0 w2 q V2 E2 n1 (n2+1+1) n4):=hg2;have BW2:Hid (Below B w w2):=(A1.out _ (by go_grown)).2.2.trans o2.bel;have T2:Hid (TB w2 _ g.ts/\TB w2 _ g.ns):=⟨(T1.out _ (by go_grown)).oth o2.oth,tb2⟩;have K2:Hid (∀ wr,Below w2.heap.size w2 wr->wr.heap[w.heap.size]?=some (gBox g)/\wr.heap[w.heap.size+1]?=some (.cells #[.slice none 0 0,.slice none 0 0,.int .i64 0,.slice none 0 0,.slice none 0 0] 63)):=(fun wr hb=>by have e0:=k_next o2.oth (K1.out _ (by go_grown)).1;have e1:=k_next o2.oth (K1.out _ (by go_grown)).2;exact ⟨(hb.block _ (lt_of_block e0)).trans e0,(hb.block _ (lt_of_block e1)).trans e1⟩);clear c0 c1 c2;have c0:w2.cell? ⟨w.heap.size,0,none⟩=some (.slice g.ta g.ts.length g.tc):=(cQa (K2.out w2 (Below.refl _ _)).1).trans rfl;have c1:w2.cell? ⟨w.heap.size,1,none⟩=some (.slice g.na g.ns.length g.nc):=(cQa (K2.out w2 (Below.refl _ _)).1).trans rfl;have c2:w2.cell? ⟨w.heap.size,2,none⟩=some (.int .i64 g.start):=(cQa (K2.out w2 (Below.refl _ _)).1).trans rfl;have hz2:w.heap.size+1 < w2.heap.size:=lt_of_block (K2.out w2 (Below.refl _ _)).2;have hn2:w.heap.size≠w2.heap.size:=(by omega);have O2:Hid _:=o2.oth;clear o2 tb2 hg2;(first | (have px:w2.heap[w.heap.size+1+1]?=some (.cells #[.slice none 0 0,.slice none 0 0,.int .i64 0,.slice none 0 0,.slice none 0 0] 63):=(by with_reducible exact k_next O2.out (k_next O1.out (newO3 w (gBox g) (.cells #[.slice none 0 0,.slice none 0 0,.int .i64 0,.slice none 0 0,.slice none 0 0] 63) (.cells #[.slice none 0 0,.slice none 0 0,.int .i64 0,.slice none 0 0,.slice none 0 0] 63))));have z0:w2.cell? ⟨w.heap.size+1+1,0,none⟩=some (.slice none 0 0):=(cQa px).trans rfl;have y0:w2.frozen? ⟨w.heap.size+1+1,0,none⟩=false:=(by simp [World.frozen?,px]);have z1:w2.cell? ⟨w.heap.size+1+1,1,none⟩=some (.slice none 0 0):=(cQa px).trans rfl;have y1:w2.frozen? ⟨w.heap.size+1+1,1,none⟩=false:=(by simp [World.frozen?,px]);have z2:w2.cell? ⟨w.heap.size+1+1,2,none⟩=some (.int .i64 0):=(cQa px).trans rfl;have y2:w2.frozen? ⟨w.heap.size+1+1,2,none⟩=false:=(by simp [World.frozen?,px]);have z3:w2.cell? ⟨w.heap.size+1+1,3,none⟩=some (.slice none 0 0):=(cQa px).trans rfl;have y3:w2.frozen? ⟨w.heap.size+1+1,3,none⟩=false:=(by simp [World.frozen?,px]);have z4:w2.cell? ⟨w.heap.size+1+1,4,none⟩=some (.slice none 0 0):=(cQa px).trans rfl;have y4:w2.frozen? ⟨w.heap.size+1+1,4,none⟩=false:=(by simp [World.frozen?,px]);have PW:Hid (w2.heap[w.heap.size+1+1]?=some (.cells #[.slice none 0 0,.slice none 0 0,.int .i64 0,.slice none 0 0,.slice none 0 0] 63)):=px;clear px) | (have px:w2.heap[w1.heap.size]?=some (.cells #[.slice none 0 0,.slice none 0 0,.int .i64 0,.slice none 0 0,.slice none 0 0] 63):=(by with_reducible exact k_next O2.out (heap_alloc_new w1 (.cells #[.slice none 0 0,.slice none 0 0,.int .i64 0,.slice none 0 0,.slice none 0 0] 63)));have z0:w2.cell? ⟨w1.heap.size,0,none⟩=some (.slice none 0 0):=(cQa px).trans rfl;have y0:w2.frozen? ⟨w1.heap.size,0,none⟩=false:=(by simp [World.frozen?,px]);have z1:w2.cell? ⟨w1.heap.size,1,none⟩=some (.slice none 0 0):=(cQa px).trans rfl;have y1:w2.frozen? ⟨w1.heap.size,1,none⟩=false:=(by simp [World.frozen?,px]);have z2:w2.cell? ⟨w1.heap.size,2,none⟩=some (.int .i64 0):=(cQa px).trans rfl;have y2:w2.frozen? ⟨w1.heap.size,2,none⟩=false:=(by simp [World.frozen?,px]);have z3:w2.cell? ⟨w1.heap.size,3,none⟩=some (.slice none 0 0):=(cQa px).trans rfl;have y3:w2.frozen? ⟨w1.heap.size,3,none⟩=false:=(by simp [World.frozen?,px]);have z4:w2.cell? ⟨w1.heap.size,4,none⟩=some (.slice none 0 0):=(cQa px).trans rfl;have y4:w2.frozen? ⟨w1.heap.size,4,none⟩=false:=(by simp [World.frozen?,px]);have PW:Hid (w2.heap[w1.heap.size]?=some (.cells #[.slice none 0 0,.slice none 0 0,.int .i64 0,.slice none 0 0,.slice none 0 0] 63)):=px;clear px) | skip)))
 all_goals
  have ot:Oth w w2:=(((Oth.ofBelow (by go_grown)).trans O1.out).trans (Oth.ofBelow (by go_grown))).trans O2.out
  have tb:=T2.out.1
  have nb:=T2.out.2
  simp only [drew_size,alloc_size1] at tb nb
 ·exact KEY _ _ _ _ _ _ _ _ _ _ _ _ _ _ _ (gw_new G2.out (K2.out _ (Below.refl _ _)).1 (K2.out _ (Below.refl _ _)).2 tb nb BW2.out hsz ot hz2)
 ·exact KEY _ _ _ _ _ _ _ _ _ _ _ _ _ _ _ (gw_set G2.out (K2.out _ (Below.refl _ _)).1 (K2.out _ (Below.refl _ _)).2 tb nb BW2.out hsz ot hz2 PW.out hz1)
 ·exact KEY _ _ _ _ _ _ _ _ _ _ _ _ _ _ _ (gw_set G2.out (K2.out _ (Below.refl _ _)).1 (K2.out _ (Below.refl _ _)).2 tb nb BW2.out hsz ot hz2 PW.out (by omega))
abbrev gvBoxT:Obj:=.cells #[hNil,hNil,hNil,hNil,hNil,hNil,hNil,hNil,hNil,hNil,hNil,hNil,hNil,hNil,hNil,hNil,hNil,hNil,hNil,hNil,hNil,hNil] 38
theorem hg_newT (B:Nat)(w0 w:World)(hb:Below B w0 w)(hB:B<=w.heap.size):HG B w0 (w.alloc (.cells #[hNil,hNil,hNil,hNil,hNil,hNil,hNil,hNil,hNil,hNil,hNil,hNil,hNil,hNil,hNil,hNil,hNil,hNil,hNil,hNil,hNil,hNil] 38)) w.heap.size (fun _=>hNil) (fun _=>[]) 0 0 0 :=
 ⟨hnew w tyG tyG_q,(fun i k hk=>by cases hk),hB,hb.trans ((bAl w _).mono hB),Nat.le_trans hB (bAl w _).size,⟨(fun e he=>by cases he),(fun e he=>by cases he),(fun e he=>by cases he),(fun _ _ _ _=>rfl)⟩,rfl,rfl,rfl⟩
theorem GX.oth {w w':World}{x:GV}(h:GX w x)(ho:Oth w w'):GX w' x :=
 ⟨by obtain ⟨b,e,y⟩:=h.t;exact ⟨b,e,y.oth ho⟩,by obtain ⟨b,e,y⟩:=h.n;exact ⟨b,e,y.oth ho⟩,row_kept h.p fun k C _ hk=>ho.blk k C _ hk okT_prod,fun p hp=>by obtain ⟨b,e,y⟩:=h.pe p hp;exact ⟨b,e,y.oth ho⟩,row_kept h.l fun k C _ hk=>ho.blk k C _ hk okT_lev,fun p hp=>by obtain ⟨b,e,y⟩:=h.le p hp;exact ⟨b,e,y.oth ho⟩⟩
theorem blk_later {w w':World}{b:Nat}{o:Obj}(h:w.heap[b]?=some o)(hb:Below w.heap.size w w'):w'.heap[b]?=some o:=(hb.block b (lt_of_block h)).trans h
theorem getD_coreV {α β:Type}(f:α->β)(l:List α)(i:Nat)(d:α):f (l.getD i d)=(l.map f).getD i (f d):=by
 simp only [List.getD,List.getElem?_map]
 cases l[i]?<;>rfl
theorem core_pV {g g':GV}(h:SameG g g')(i:Nat):(g'.ps.getD i .none).core=(g.ps.getD i .none).core:=by
 rw [getD_coreV PV.core,getD_coreV PV.core,h.ps]
theorem core_lV {g g':GV}(h:SameG g g')(i:Nat):(g'.ls.getD i .none).core=(g.ls.getD i .none).core:=by
 rw [getD_coreV LV.core,getD_coreV LV.core,h.ls]
theorem any_coreV {α β:Type}(f:α->β)(p:β->Bool)(l l':List α)(h:l'.map f=l.map f)(i:Nat):((l'.take i).any fun q=>p (f q))=((l.take i).any fun q=>p (f q)):=by
 have e:∀ k:List α,((k.take i).any fun q=>p (f q))=((k.map f).take i).any p:=fun k=>by rw [<- List.map_take,List.any_map];rfl
 rw [e,e,h]
theorem same_prodUV {g g':GV}(h:SameG g g')(i:Nat):prodU g' i=prodU g i:=by
 have hc:=core_pV h i
 have c1:(g'.ps.getD i .none).left=(g.ps.getD i .none).left:=congrArg (·.1) hc
 have c2:(g'.ps.getD i .none).right=(g.ps.getD i .none).right:=congrArg (·.2.1) hc
 have c3:(g'.ps.getD i .none).prec=(g.ps.getD i .none).prec:=congrArg (·.2.2) hc
 have hn:inN g'=inN g:=by funext x;simp only [inN,h.ns]
 have ht:inT g'=inT g:=by funext x;simp only [inT,h.ts]
 have hG:inG g'=inG g:=by funext x y;simp only [inG,ht,hn]
 have ha:=any_coreV PV.core (fun q=>q.1 == (g.ps.getD i .none).left && q.2.1 == (g.ps.getD i .none).right) g.ps g'.ps h.ps i
 unfold prodU
 rw [c1,c2,c3,hn,ht,hG]
 have ha':((g'.ps.take i).any fun q=>q.left == (g.ps.getD i .none).left && q.right == (g.ps.getD i .none).right)=((g.ps.take i).any fun q=>q.left == (g.ps.getD i .none).left && q.right == (g.ps.getD i .none).right):=ha
 rw [ha']
theorem same_levelUV {g g':GV}(h:SameG g g')(i:Nat):lU_ g' i=lU_ g i:=by
 have hc:=core_lV h i
 have c1:(g'.ls.getD i .none).assoc=(g.ls.getD i .none).assoc:=congrArg (·.1) hc
 have c2:(g'.ls.getD i .none).terms=(g.ls.getD i .none).terms:=congrArg (·.2) hc
 have ht:inT g'=inT g:=by funext x;simp only [inT,h.ts]
 have hnm:nU_ g'.ls i=nU_ g.ls i:=by
  have e:∀ k:List LV,nU_ k i=((k.map LV.core).take i).flatMap (·.2):=fun k=>by rw [<- List.map_take,List.flatMap_map];rfl
  rw [e,e,h.ls]
 unfold lU_
 rw [c1,c2,ht,hnm]
theorem same_checkV {g g':GV}(h:SameG g g'):cG_ g' (cF_ g'.ts g'.ns)=cG_ g (cF_ g.ts g.ns):=by
 have hp:g'.ps.length=g.ps.length:=by simpa using congrArg List.length h.ps
 have hl:g'.ls.length=g.ls.length:=by simpa using congrArg List.length h.ls
 have hn:inN g'=inN g:=by funext x;simp only [inN,h.ns]
 have e1:prodU g'=prodU g:=funext (same_prodUV h)
 have e2:lU_ g'=lU_ g:=funext (same_levelUV h)
 unfold cG_
 rw [h.ts,h.ns,h.start,hp,hl,hn,e1,e2]
end Go.Proofs.YteciabdjkaackaaGreat
