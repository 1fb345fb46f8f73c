import Derived.Test.YthaamdognbncnaaGreatDoorPGUpToTM50
import Derived.Test.YthaamdognbncnaaGreatDoorPGSmallToGOwn3
namespace Go.Proofs.YthaamdognbncnaaGreatDoor
set_option linter.unusedVariables false
set_option maxRecDepth 100000
set_option maxHeartbeats 16000000
open Go.RowKit Go.Shelf Go.Maps
theorem il_shape7 {w:World}{v:Value}{l:List Int}(h:IL w v l):∃ a c,v=.slice a l.length c:=by
 rcases h.2 with ⟨e,h0⟩ | ⟨g,cap,cur,e,h1,h2,h3⟩
 ·exact ⟨none,0,by rw [e,h0]⟩
 ·exact ⟨_,_,e⟩
theorem sy_cap7 {w:World}{a:Option Addr}{n c:Nat}{l:List (Int×Int)}(h:SY w (.slice a n c) l):l.length<=c:=by
 rcases h.2 with ⟨e,h0⟩ | ⟨g,cap,cur,e,h1,h2,h3,h4⟩
 ·omega
 ·cases e;omega
theorem OkC.okd7 {g:GV}(h:OkC g):OkD g:=by
 have tl:=h.tl
 have nl:=h.nl
 have pl:=h.pl
 have ll:=h.ll
 have st:=h.st
 refine ⟨fun s hs=>Nat.le_trans (h.ts s hs) (by omega),fun s hs=>Nat.le_trans (h.ns s hs) (by omega),by omega,fun q hq=>?_,fun q hq=>?_,by omega,by omega,by omega,by omega⟩
 ·obtain ⟨i,hi,rfl⟩:=getD_mem (d:=PV.none) hq
  have l:=h.left i hi
  have p:=h.prec i hi
  have r:=h.right i hi
  refine ⟨by omega,by omega,fun s hs=>?_,by omega⟩
  rcases inG_is (h.inG i hi s hs) with ⟨e,z⟩ | ⟨e,z⟩
  ·exact ⟨.inl e,by omega,by omega⟩
  ·exact ⟨.inr e,by omega,by omega⟩
 ·obtain ⟨i,hi,rfl⟩:=getD_mem (d:=LV.none) hq
  obtain ⟨a,b,_⟩:=h.level i hi
  have t:=h.terms i hi
  exact ⟨by omega,fun s hs=>by have:=b s hs;omega,by omega⟩
theorem DG.own7 {B:Nat}{w:World}{x:GV}(h:DG B w x)(ok:OkC x):GAt 140737488355328 w x/\x.ps.length<=x.pc/\∀ p∈x.ps,p.right.length<=p.rc:=by
 have q:=h.at (g:=x) ⟨rfl,rfl,rfl,rfl,rfl⟩ ok.okd7
 exact ⟨q.1.mono (by omega),q.2,fun p hp=>sy_cap7 (h.p.each p hp)⟩
theorem TrR.known {g x:GV}{er at_:Int}(hE:cG_ g (cF_ g.ts g.ns)=(er,at_))(h:TrR g er 0 x):er=0/\∃ M T N,TrK g x M T N:=by
 by_cases h0:er=0
 ·subst h0
  refine ⟨rfl,?_⟩
  obtain ⟨M,hM,⟨_,q,_⟩ | ⟨q1,T,N,q2,⟨_,q,_⟩ | ⟨q3,_,q4⟩⟩⟩:=h.1 rfl
  ·cases q
  ·cases q
  ·exact ⟨M,T,N,OkC.of (by rw [hE]),checkF_ok hE,hM,q1,q2,q3,q4⟩
 ·exact absurd (h.2 h0).1.symm h0
def WlR (g:GV)(er k':Int)(x':GV):Prop:=∃ k x,TrR g er k x/\((k≠0/\k'=k/\x'=gNil7)∨(k=0/\∃ O,CiL x O/\((O≠[]/\k'=73/\x'=gNil7)∨(O=[]/\k'=0/\x'=x))))
set_option linter.unusedSimpArgs false in
theorem Wells_P (g:GV)(w:World)(h:GAt 140737488355328 w g)(hpc:g.ps.length<=g.pc)(er at_:Int)(hE:cG_ g (cF_ g.ts g.ns)=(er,at_))(hT:TabB w) :
  Calls Tryz.prog 10 #[g.val] w fun e w'=>∃ x k,e=.returned (.tuple #[x.val,.int .i64 k])/\WlR g er k x/\DG (w.heap.size+1+1) w' x/\Below w.heap.size w w':=by
 have B1:Hid (Below w.heap.size w ((w.alloc (gBox g)).alloc zG)/\((w.alloc (gBox g)).alloc zG).heap[w.heap.size]?=some (gBox g)/\((w.alloc (gBox g)).alloc zG).heap[w.heap.size+1]?=some zG):=by
  have q0:=heap_alloc_new w (gBox g)
  have q:=heap_alloc_new (w.alloc (gBox g)) zG
  rw [show (w.alloc (gBox g)).heap.size=w.heap.size+1 by simp] at q
  exact ⟨(bAl w _).trans ((bAl (w.alloc (gBox g)) _).mono (bAl w _).size),((bAl (w.alloc (gBox g)) _).block _ (by simp)).trans q0,q⟩
 have TR:Hid (Calls Tryz.prog 9 #[g.val] ((w.alloc (gBox g)).alloc zG) fun e w'=>∃ x k,e=.returned (.tuple #[x.val,.int .i64 k])/\TrR g er k x/\DG (((w.alloc (gBox g)).alloc zG).heap.size+1+1) w' x/\Below ((w.alloc (gBox g)).alloc zG).heap.size ((w.alloc (gBox g)).alloc zG) w'):=Trim_P g _ (h.later B1.out.1) hpc er at_ hE fun q=>OkC.prw (OkC.of (by rw [hE,q]))
 have HE:Hid (cG_ g (cF_ g.ts g.ns)=(er,at_)):=hE
 have HT:Hid (TabB w):=hT
 obtain ⟨x0,x1,x2,x3,x4⟩:=gbc B1.out.2.1
 clear h hE hpc hT
 go_enter Tryz.func10,Tryz.ntmps10
 go_wp2_with (go_at_call 9;refine TR.out.mono ?_)
 rintro e w2 ⟨x,k,rfl,t2,d2,b2⟩
 have Bw2:Hid (Below w.heap.size w w2/\w2.heap[w.heap.size+1]?=some zG):=⟨B1.out.1.trans (b2.mono B1.out.1.size),(b2.block _ (lt_of_block B1.out.2.2)).trans B1.out.2.2⟩
 have T2:Hid (TrR g er k x):=t2
 have D2:Hid (DG (w.heap.size+1+1) w2 x):=d2.mono (by simp)
 clear t2 d2 b2 x0 x1 x2 x3 x4 TR
 by_cases hk:k=0
 ·subst hk
  have KN:Hid (∃ M T N,TrK g x M T N):=(TrR.known HE.out T2.out).2
  have IN:Hid (∀ wq,Below w2.heap.size w2 wq->Calls Tryz.prog 22 #[x.val] wq fun e w'=>∃ a c l,e=.returned (.slice a l.length c)/\CiL x l/\Below wq.heap.size wq w'):=fun wq hb=>by
   obtain ⟨M,T,N,kn⟩:=KN.out
   have ck:=kn.check
   have ok:=kn.tidy.ok
   obtain ⟨y1,y2,y3⟩:=(D2.out.kept fun k _ hk=>hb.block k hk).own7 ok
   exact (circular_P x wq y1 y2 0 ck y3 (HT.out.later (Bw2.out.1.trans (hb.mono Bw2.out.1.size)))).mono fun e w' ⟨v,q1,O,q2,q3⟩=>by
    obtain ⟨a,c,rfl⟩:=il_shape7 q2.il
    exact ⟨a,c,_,q1,circ_L ok y1 q3,q2.bel⟩
  have t1:((0:Int) != 0)=false:=by decide
  have b3:Below w2.heap.size w2 (w2.alloc (gBox x)):=bAl _ _
  have X3:Hid ((w2.alloc (gBox x)).heap[w2.heap.size]?=some (gBox x)):=heap_alloc_new _ _
  have Bw3:Hid (Below w.heap.size w (w2.alloc (gBox x))/\(w2.alloc (gBox x)).heap[w.heap.size+1]?=some zG):=⟨Bw2.out.1.trans (b3.mono Bw2.out.1.size),(b3.block _ (lt_of_block Bw2.out.2)).trans Bw2.out.2⟩
  have CC:Hid (Calls Tryz.prog 22 #[x.val] (w2.alloc (gBox x)) fun e w'=>∃ a c l,e=.returned (.slice a l.length c)/\CiL x l/\Below (w2.alloc (gBox x)).heap.size (w2.alloc (gBox x)) w'):=IN.out _ b3
  have D3:Hid (DG (w.heap.size+1+1) (w2.alloc (gBox x)) x):=D2.out.kept fun k _ hk=>b3.block k hk
  obtain ⟨x0,x1,x2,x3,x4⟩:=gbc X3.out
  clear b3 IN
  go_wp2_with (go_at_call 22;refine CC.out.mono ?_)
  rintro e w4 ⟨a,c,l,rfl,c4,b4⟩
  have B4:Hid (Below w.heap.size w w4/\w4.heap[w.heap.size+1]?=some zG/\w4.heap[w2.heap.size]?=some (gBox x)):=⟨Bw3.out.1.trans (b4.mono Bw3.out.1.size),(b4.block _ (lt_of_block Bw3.out.2)).trans Bw3.out.2,(b4.block _ (lt_of_block X3.out)).trans X3.out⟩
  have D4:Hid (DG (w.heap.size+1+1) w4 x):=D3.out.kept fun k _ hk=>b4.block k hk
  have C4:Hid (CiL x l):=c4
  clear b4 c4 x0 x1 x2 x3 x4
  obtain ⟨x0,x1,x2,x3,x4⟩:=gbc B4.out.2.2
  obtain ⟨r0,r1,r2,r3,r4⟩:=zcells B4.out.2.1
  obtain ⟨e0,e1,e2,e3,e4⟩:=zfree B4.out.2.1
  cases l with
  | nil =>
   have REL:Hid (WlR g er 0 x):=⟨0,x,T2.out,.inr ⟨rfl,[],C4.out,.inr ⟨rfl,rfl,rfl⟩⟩⟩
   go_wp2
   refine bodyPost_ret (v:=.tuple #[x.val,.int .i64 0]) (by simp [results,Tryz.results10,go_sem,r0,r1,r2,r3,r4]) rfl ?_
   refine ⟨x,0,rfl,REL.out,D4.out.kept fun k hk hk2=>?_,below_set5 B4.out.1 _ _ _ _ _⟩
   exact (set5 (o:=w4.heap[k]'hk2) (by omega) (by simp) _ _ _ _ _ _ _ _ _ _).trans (by simp)
  | cons y l =>
   have REL:Hid (WlR g er 73 gNil7):=⟨0,x,T2.out,.inr ⟨rfl,y :: l,C4.out,.inl ⟨by simp,rfl,rfl⟩⟩⟩
   have hpos:(0:Int) < ((y :: l).length:Int):=by simp only [List.length_cons];omega
   go_wp2
   refine bodyPost_ret (v:=.tuple #[gNil7.val,.int .i64 73]) (by simp [results,Tryz.results10,go_sem,r0,r1,r2,r3,r4,gNil7]) rfl ?_
   exact ⟨gNil7,73,rfl,REL.out,DG.nil7 _ _,below_set5 B4.out.1 _ _ _ _ _⟩
 ·have t1:(k != 0)=true:=by simpa using hk
  have b3:Below w2.heap.size w2 (w2.alloc (gBox x)):=bAl _ _
  have Bw3:Hid (Below w.heap.size w (w2.alloc (gBox x))/\(w2.alloc (gBox x)).heap[w.heap.size+1]?=some zG):=⟨Bw2.out.1.trans (b3.mono Bw2.out.1.size),(b3.block _ (lt_of_block Bw2.out.2)).trans Bw2.out.2⟩
  obtain ⟨r0,r1,r2,r3,r4⟩:=zcells Bw3.out.2
  obtain ⟨e0,e1,e2,e3,e4⟩:=zfree Bw3.out.2
  have REL:Hid (WlR g er k gNil7):=⟨k,x,T2.out,.inl ⟨hk,rfl,rfl⟩⟩
  clear b3 hk
  go_wp2
  refine bodyPost_ret (v:=.tuple #[gNil7.val,.int .i64 k]) (by simp [results,Tryz.results10,go_sem,r0,r1,r2,r3,r4,gNil7]) rfl ?_
  exact ⟨gNil7,k,rfl,REL.out,DG.nil7 _ _,below_set5 Bw3.out.1 _ _ _ _ _⟩
theorem TrR.nil7 {g x:GV}{er k:Int}(h:TrR g er k x)(hk:k≠0):x=gNil7:=by
 by_cases h0:er=0
 ·obtain ⟨M,hM,⟨_,_,e⟩ | ⟨_,T,N,_,⟨_,_,e⟩ | ⟨_,e,_⟩⟩⟩:=h.1 h0
  ·exact e
  ·exact e
  ·exact absurd e hk
 ·exact (h.2 h0).2
structure CW7 (g:GV)(w:World)(X:List (Nat×GV))(wr:World):Prop where
 bel:Below w.heap.size w wr
 box:wr.heap[w.heap.size]?=some (gBox g)
 own:∀ q∈X,wr.heap[q.1]?=some (gBox q.2)/\∃ B,DG B wr q.2
section
variable {g x:GV} {w wr w':World} {X:List (Nat×GV)}
theorem CW7.later (h:CW7 g w X wr)(hb:Below wr.heap.size wr w'):CW7 g w X w' :=
 ⟨h.bel.trans (hb.mono h.bel.size),(hb.block _ (lt_of_block h.box)).trans h.box,fun q hq=>⟨(hb.block _ (lt_of_block (h.own q hq).1)).trans (h.own q hq).1,(h.own q hq).2.imp fun _ d=>d.kept fun k _ hk=>hb.block k hk⟩⟩
theorem CW7.add (h:CW7 g w X wr)(hb:Below wr.heap.size wr w'){B:Nat}(hd:DG B w' x):CW7 g w ((w'.heap.size,x) :: X) (w'.alloc (gBox x)) :=
 have k:=(h.later hb).later (bAl w' (gBox x))
 ⟨k.bel,k.box,fun q hq=>by
  rcases List.mem_cons.1 hq with rfl | r
  ·exact ⟨heap_alloc_new _ _,B,hd.kept fun k _ hk=>(bAl w' (gBox x)).block k hk⟩
  ·exact k.own q r⟩
end
structure RD7 (B q:Nat)(w1:World)(V:Nat->Value)(E:Nat->List LE)(m c:Nat)(w:World):Prop where
 ks:KS B w q V E m c
 hb:Below B w1 w
 mz:m<=w.heap.size
 bm:B<=m
structure PN7 (ba:Nat)(y:GV)(lo hi:Nat)(w:World):Prop where
 bx:w.heap[ba]?=some (bxG y)
 og:OG lo hi w y
 lh:lo<=hi
 hz:hi<=w.heap.size
structure LP7 (t:TypeId)(sz:Nat)(a:Option Addr)(n c:Nat)(X:List Value)(lo hi:Nat)(w:World):Prop where
 put:Put w lo hi t sz a n c X
 lh:lo<=hi
 hz:hi<=w.heap.size
 nn:n<=100000000
section
variable {B q:Nat} {w1:World} {V:Nat->Value} {E:Nat->List LE} {m c:Nat} {w w':World}
theorem RD7.later (h:RD7 B q w1 V E m c w)(hb:Below w.heap.size w w'):RD7 B q w1 V E m c w' :=
 ⟨h.ks.later hb,h.hb.trans (hb.mono h.ks.ki.size),Nat.le_trans h.mz hb.size,h.bm⟩
theorem RD7.book {V':Nat->Value}{E':Nat->List LE}{m' c':Nat}(h:RD7 B q w1 V E m c w)(hk:KS B w' q V' E' m' c')(hb:Below B w w')(hq:KQ kG w w')(hm:m'<=w.heap.size)(hm':m<=m'):RD7 B q w1 V' E' m' c' w' :=
 ⟨hk,h.hb.trans hb,Nat.le_trans hm hq.1,Nat.le_trans h.bm hm'⟩
theorem PN7.keep {ba:Nat}{y:GV}{lo hi:Nat}(h:PN7 ba y lo hi w)(hq:KQ kG w w'):PN7 ba y lo hi w':=⟨box_keep h.bx hq,h.og.keep hq,h.lh,Nat.le_trans h.hz hq.1⟩
theorem PN7.later {ba:Nat}{y:GV}{lo hi:Nat}(h:PN7 ba y lo hi w)(hb:Below w.heap.size w w'):PN7 ba y lo hi w':=h.keep (KQ.of hb)
theorem PN7.new {y:GV}{lo:Nat}(h:OG lo w.heap.size w y)(hl:lo<=w.heap.size):PN7 w.heap.size y lo w.heap.size (w.alloc (bxG y)):=⟨heap_alloc_new _ _,h.later (bAl _ _),hl,(bAl w _).size⟩
theorem LP7.keep {t:TypeId}{sz:Nat}{a:Option Addr}{n c:Nat}{X:List Value}{lo hi:Nat}(h:LP7 t sz a n c X lo hi w)(i:Nat)(ht:kG.te i=t)(hq:KQ kG w w'):LP7 t sz a n c X lo hi w':=⟨h.put.keep hq i ht,h.lh,Nat.le_trans h.hz hq.1,h.nn⟩
theorem LP7.later {t:TypeId}{sz:Nat}{a:Option Addr}{n c:Nat}{X:List Value}{lo hi:Nat}(h:LP7 t sz a n c X lo hi w)(i:Nat)(ht:kG.te i=t)(hb:Below w.heap.size w w'):LP7 t sz a n c X lo hi w':=h.keep i ht (KQ.of hb)
theorem RD7.gram {ba:Nat}{y:GV}{lo hi:Nat}(h:RD7 B q w1 V E m c w)(p:PN7 ba y lo hi w)(hl:m<=lo)(hc:c < 800) :
  Calls Tryz.prog 13 #[.pointer (some ⟨q,0,none⟩),y.val] w fun e w'=>e=.returned (.tuple #[])/\∃ V' E',RD7 B q w1 V' E' hi (c+6) w'/\KQ kG w w':=by
 refine (book_Grammar B q V E w m hi c h.ks h.bm (Nat.le_trans hl p.lh) y (p.og.mono hl (Nat.le_refl _)) (by omega)).mono ?_
 rintro e w' ⟨rfl,V',E',k,b,r⟩
 exact ⟨rfl,V',E',h.book k b r p.hz (Nat.le_trans hl p.lh),r⟩
theorem RD7.ints {a:Option Addr}{n c':Nat}{X:List Value}{lo hi:Nat}(h:RD7 B q w1 V E m c w)(p:LP7 3 1 a n c' X lo hi w)(hl:m<=lo)(hc:c < 800) :
  Calls Tryz.prog 11 #[.pointer (some ⟨q,0,none⟩),.slice a n c'] w fun e w'=>e=.returned (.tuple #[])/\∃ V' E',RD7 B q w1 V' E' hi (c+1) w'/\KQ kG w w':=by
 have hp:=p.put.mono hl (Nat.le_refl hi)
 refine (book_ints kG kG_ok B q V E w a n c' X h.ks.ki ⟨rfl,rfl,rfl⟩ (fun h0=>(hp h0).1) (hp.lo h.bm _ (hp.new (h.ks.lt 1))) (h.ks.nines 1)).mono ?_
 rintro e w' ⟨rfl,V',E',k,i,d,b,r⟩
 exact ⟨rfl,V',E',h.book (h.ks.one (i:=1) k i d (by decide) p.nn (fun h=>(hp h).2.2.2) (Nat.le_trans hl p.lh) (by omega)) b r p.hz (Nat.le_trans hl p.lh),r⟩
theorem RD7.syms {a:Option Addr}{n c':Nat}{X:List Value}{lo hi:Nat}(h:RD7 B q w1 V E m c w)(p:LP7 62 2 a n c' X lo hi w)(hl:m<=lo)(hc:c < 800) :
  Calls Tryz.prog 12 #[.pointer (some ⟨q,0,none⟩),.slice a n c'] w fun e w'=>e=.returned (.tuple #[])/\∃ V' E',RD7 B q w1 V' E' hi (c+1) w'/\KQ kG w w':=by
 have hp:=p.put.mono hl (Nat.le_refl hi)
 refine (book_symsW kG kG_ok B q V E w a n c' X h.ks.ki ⟨rfl,rfl,rfl⟩ (fun h0=>(hp h0).1) (hp.lo h.bm _ (hp.new (h.ks.lt 4))) (h.ks.nines 4)).mono ?_
 rintro e w' ⟨rfl,V',E',k,i,d,b,r⟩
 exact ⟨rfl,V',E',h.book (h.ks.one (i:=4) k i d (by decide) p.nn (fun h=>(hp h).2.2.2) (Nat.le_trans hl p.lh) (by omega)) b r p.hz (Nat.le_trans hl p.lh),r⟩
end
theorem BrL.len7 {g:GV}{l:List Int}(h:BrL g l):l.length<=g.ns.length:=by
 obtain ⟨M,_,rfl⟩:=h
 exact offU_len _ _ _
theorem CiL.len7 {g:GV}{l:List Int}(h:CiL g l):l.length<=g.ns.length:=by
 obtain ⟨M,NU,_,_,rfl⟩:=h
 exact offU_len _ _ _
theorem UnL.len7 {g:GV}{l:List (Int×Int)}(h:UnL g l):l.length<=g.ts.length+g.ns.length:=by
 obtain ⟨T,N,_,rfl⟩:=h
 rw [List.length_append]
 have h1:=offY_len 1 T g.ts.length
 have h2:=offY_len 2 N g.ns.length
 omega
theorem bar_own (x:GV)(w:World)(h:GAt 140737488355328 w x)(hpc:x.ps.length<=x.pc) :
  Calls Tryz.prog 6 #[x.val] w fun e w'=>∃ (a:Option Addr) (n c:Nat) (X:List Value) (er:Int),e=.returned (.tuple #[.slice a n c,.int .i64 er])/\LP7 3 1 a n c X w.heap.size w'.heap.size w'/\Below w.heap.size w w':=by
 obtain ⟨er,at_,hE⟩:∃ er at_,cG_ x (cF_ x.ts x.ns)=(er,at_):=⟨_,_,rfl⟩
 refine (Barren_P x w h hpc er at_ hE).mono ?_
 rintro e w' ⟨v,l,rfl,p,b⟩
 obtain ⟨a,c,rfl⟩:=il_len b.il
 refine ⟨a,l.length,c,_,er,rfl,⟨Put.of_own b.il b.own,b.bel.size,Nat.le_refl _,?_⟩,b.bel⟩
 by_cases h0:er=0
 ·have ok:OkC x:=OkC.of (by rw [hE,h0])
  have:=(p.1 h0).len7
  have:=ok.nl.2
  omega
 ·rw [p.2 h0];simp
theorem cir_own (x:GV)(w:World)(h:GAt 140737488355328 w x)(hpc:x.ps.length<=x.pc)(hcap:∀ p∈x.ps,p.right.length<=p.rc)(hT:TabB w) :
  Calls Tryz.prog 8 #[x.val] w fun e w'=>∃ (a:Option Addr) (n c:Nat) (X:List Value) (er:Int),e=.returned (.tuple #[.slice a n c,.int .i64 er])/\LP7 3 1 a n c X w.heap.size w'.heap.size w'/\Below w.heap.size w w':=by
 obtain ⟨er,at_,hE⟩:∃ er at_,cG_ x (cF_ x.ts x.ns)=(er,at_):=⟨_,_,rfl⟩
 refine (Circular_P x w h hpc er at_ hE hcap hT).mono ?_
 rintro e w' ⟨v,l,rfl,p,b⟩
 obtain ⟨a,c,rfl⟩:=il_len b.il
 refine ⟨a,l.length,c,_,er,rfl,⟨Put.of_own b.il b.own,b.bel.size,Nat.le_refl _,?_⟩,b.bel⟩
 by_cases h0:er=0
 ·have ok:OkC x:=OkC.of (by rw [hE,h0])
  have:=(p.1 h0).len7
  have:=ok.nl.2
  omega
 ·rw [p.2 h0];simp
theorem unr_own (x:GV)(w:World)(h:GAt 140737488355328 w x)(hpc:x.ps.length<=x.pc) :
  Calls Tryz.prog 7 #[x.val] w fun e w'=>∃ (a:Option Addr) (n c:Nat) (X:List Value) (er:Int),e=.returned (.tuple #[.slice a n c,.int .i64 er])/\LP7 62 2 a n c X w.heap.size w'.heap.size w'/\Below w.heap.size w w':=by
 obtain ⟨er,at_,hE⟩:∃ er at_,cG_ x (cF_ x.ts x.ns)=(er,at_):=⟨_,_,rfl⟩
 refine (Unreached_P x w h hpc er at_ hE).mono ?_
 rintro e w' ⟨v,l,rfl,p,b⟩
 obtain ⟨a,c,rfl⟩:=sy_lenP b.sy
 refine ⟨a,l.length,c,_,er,rfl,⟨Put.of_own b.sy b.own,b.bel.size,Nat.le_refl _,?_⟩,b.bel⟩
 by_cases h0:er=0
 ·have ok:OkC x:=OkC.of (by rw [hE,h0])
  have:=(p.1 h0).len7
  have:=ok.nl.2
  have:=ok.tl.2
  omega
 ·rw [p.2 h0];simp
theorem TrR.og7 {g y:GV}{er at_ k:Int}(hE:cG_ g (cF_ g.ts g.ns)=(er,at_))(h:TrR g er k y){B:Nat}{w:World}(d:DG B w y):OG B w.heap.size w y:=by
 by_cases hk:k=0
 ·subst hk
  obtain ⟨M,T,N,kn⟩:=(h.known hE).2
  exact d.og kn.tidy.ok
 ·rw [h.nil7 hk]
  exact OG.void _ _ _
theorem WlR.og7 {g y:GV}{er at_ k:Int}(hE:cG_ g (cF_ g.ts g.ns)=(er,at_))(h:WlR g er k y){B:Nat}{w:World}(d:DG B w y):OG B w.heap.size w y:=by
 obtain ⟨k0,x0,t,⟨_,_,rfl⟩ | ⟨rfl,O,c,⟨_,_,rfl⟩ | ⟨_,_,rfl⟩⟩⟩:=h
 ·exact OG.void _ _ _
 ·exact OG.void _ _ _
 ·exact t.og7 hE d
theorem tri_own (x:GV)(w:World)(h:GAt 140737488355328 w x)(hpc:x.ps.length<=x.pc) :
  Calls Tryz.prog 9 #[x.val] w fun e w'=>∃ (y:GV) (er:Int),e=.returned (.tuple #[y.val,.int .i64 er])/\OG w.heap.size w'.heap.size w' y/\Below w.heap.size w w':=by
 obtain ⟨er,at_,hE⟩:∃ er at_,cG_ x (cF_ x.ts x.ns)=(er,at_):=⟨_,_,rfl⟩
 refine (Trim_P x w h hpc er at_ hE fun q=>OkC.prw (OkC.of (by rw [hE,q]))).mono ?_
 rintro e w' ⟨y,k,rfl,t,d,b⟩
 exact ⟨y,k,rfl,(t.og7 hE d).mono (by omega) (Nat.le_refl _),b⟩
theorem wel_own (x:GV)(w:World)(h:GAt 140737488355328 w x)(hpc:x.ps.length<=x.pc)(hT:TabB w) :
  Calls Tryz.prog 10 #[x.val] w fun e w'=>∃ (y:GV) (er:Int),e=.returned (.tuple #[y.val,.int .i64 er])/\OG w.heap.size w'.heap.size w' y/\Below w.heap.size w w':=by
 obtain ⟨er,at_,hE⟩:∃ er at_,cG_ x (cF_ x.ts x.ns)=(er,at_):=⟨_,_,rfl⟩
 refine (Wells_P x w h hpc er at_ hE hT).mono ?_
 rintro e w' ⟨y,k,rfl,t,d,b⟩
 exact ⟨y,k,rfl,(t.og7 hE d).mono (by omega) (Nat.le_refl _),b⟩
theorem three_X (w:World):Calls Tryz.prog 5 #[] w fun e w'=>∃ n,e=.returned (thG n).val/\GAt 140737488355328 w' (thG n)/\Below w.heap.size w w'/\w.heap.size<=n:=by
 have T0:Hid True:=trivial
 go_enter Tryz.func5,Tryz.ntmps5
 go_wp2_with (first
  | (go_at_call 17;have T1:Hid True:=T0;clear T0;refine (n7_E 0 _).mono ?_;rintro e w1 ⟨rfl,rfl⟩)
  | (go_at_call 17;have T2:Hid True:=T1;clear T1;refine (n7_E 1 _).mono ?_;rintro e w2 ⟨rfl,rfl⟩)
  | (go_at_call 18;refine (t7_E 0 _).mono ?_;rintro e w3 ⟨rfl,rfl⟩))
 refine bodyPost_ret (v:=.agg #[.slice (some ⟨w.heap.size+1+1+1+1+1+1+1,0,none⟩) 1 1,.slice (some ⟨w.heap.size+1+1+1+1+1+1+1+1,0,none⟩) 2 2,.int .i64 0,.slice (some ⟨w.heap.size+1+1+1+1+1+1+1+1+1+1+1+1,0,none⟩) 3 3,.slice none 0 0]) (by simp [results,Tryz.results5,go_sem]) rfl ?_
 refine ⟨w.heap.size+1+1+1+1,rfl,GAt.mono (n:=8) ⟨?_,?_,⟨?_,?_⟩,⟨?_,?_⟩,?_,?_,by simp [thG],by simp [thG],by simp [thG],by simp [thG],?_,?_⟩ (by decide),?_,by omega⟩
 ·intro _
  refine ⟨w.heap.size+1+1+1+1+1+1+1,0,rfl,by simp,fun i hi=>?_⟩
  have hi:i < 1:=hi
  obtain rfl:i=0:=by omega
  simp [go_sem,thG]
 ·intro _
  refine ⟨w.heap.size+1+1+1+1+1+1+1+1,0,rfl,by simp,fun i hi=>?_⟩
  have hi:i < 2:=hi
  rcases (show i=0∨i=1 by omega) with rfl | rfl<;>simp [go_sem,thG]
 ·intro _
  refine ⟨w.heap.size+1+1+1+1+1+1+1+1+1+1+1+1,0,rfl,by simp,fun i hi=>?_⟩
  have hi:i < 3:=hi
  rcases (show i=0∨i=1∨i=2 by omega) with rfl | rfl | rfl<;>simp [go_sem,thG]
 ·intro p hp hn
  simp only [thG,List.mem_cons,List.not_mem_nil,or_false] at hp
  rcases hp with rfl | rfl | rfl
  ·refine ⟨w.heap.size+1+1+1+1+1+1+1+1+1,0,rfl,by simp,fun i hi=>?_⟩
   have hi:i < 1:=hi
   obtain rfl:i=0:=by omega
   simp [go_sem]
  ·refine ⟨w.heap.size+1+1+1+1+1+1+1+1+1+1,0,rfl,by simp,fun i hi=>?_⟩
   have hi:i < 2:=hi
   rcases (show i=0∨i=1 by omega) with rfl | rfl<;>simp [go_sem]
  ·refine ⟨w.heap.size+1+1+1+1+1+1+1+1+1+1+1,0,rfl,by simp,fun i hi=>?_⟩
   have hi:i < 1:=hi
   obtain rfl:i=0:=by omega
   simp [go_sem]
 ·intro hn
  exact absurd rfl hn
 ·intro p hp hn
  simp [thG] at hp
 ·intro s hs;simp only [thG,List.mem_cons,List.not_mem_nil,or_false] at hs;rcases hs with rfl<;>first | decide | simp
 ·intro s hs;simp only [thG,List.mem_cons,List.not_mem_nil,or_false] at hs;rcases hs with rfl | rfl<;>first | decide | simp
 ·intro p hp;simp only [thG,List.mem_cons,List.not_mem_nil,or_false] at hp;rcases hp with rfl | rfl | rfl<;>first | decide | simp
 ·intro p hp;simp [thG] at hp
 ·repeat (first | exact Below.refl _ _ | refine bel_al7 ?_)
theorem cell_blk7 {w w':World}{b:Nat}(h:w'.heap[b]?=w.heap[b]?)(i:Nat):w'.cell? ⟨b,i,none⟩=w.cell? ⟨b,i,none⟩:=by
 unfold World.cell?
 rw [h]
theorem StrRow.blk7 {w w':World}{b o:Nat}{l:List ByteArray}(h:StrRow w (some ⟨b,o,none⟩) l)(hk:w'.heap[b]?=w.heap[b]?)(hs:w.heap.size<=w'.heap.size):StrRow w' (some ⟨b,o,none⟩) l:=fun hn=>by
 obtain ⟨b',o',e,hb,hc⟩:=h hn
 cases e
 exact ⟨b,o,rfl,by omega,fun i hi=>(cell_blk7 hk _).trans (hc i hi)⟩
theorem SymRow.blk7 {w w':World}{b o:Nat}{l:List (Int×Int)}(h:SymRow w (some ⟨b,o,none⟩) l)(hk:w'.heap[b]?=w.heap[b]?)(hs:w.heap.size<=w'.heap.size):SymRow w' (some ⟨b,o,none⟩) l:=fun hn=>by
 obtain ⟨b',o',e,hb,hc⟩:=h hn
 cases e
 exact ⟨b,o,rfl,by omega,fun i hi=>⟨(cell_blk7 hk _).trans (hc i hi).1,(cell_blk7 hk _).trans (hc i hi).2⟩⟩
theorem th_keep {N n:Nat}{w w':World}(h:GAt N w (thG n))(hk:∀ j,n<=j->w'.heap[j]?=w.heap[j]?)(hs:w.heap.size<=w'.heap.size):GAt N w' (thG n):=by
 refine ⟨StrRow.blk7 h.t (hk _ (by omega)) hs,StrRow.blk7 h.n_ (hk _ (by omega)) hs,⟨fun hn=>?_,fun p hp=>?_⟩,⟨fun hn=>absurd rfl hn,fun p hp=>(by cases hp)⟩,h.tz,h.nz,h.tl,h.nl,h.pl,h.ll,h.rl,h.vl⟩
 ·obtain ⟨b',o',e,hb,hc⟩:=h.p.cells hn
  have e':(some ⟨n+1+1+1+1+1+1+1+1,0,none⟩:Option Addr)=some ⟨b',o',none⟩:=e
  cases e'
  have hk':=hk (n+1+1+1+1+1+1+1+1) (by omega)
  exact ⟨_,_,rfl,by omega,fun i hi=>⟨(cell_blk7 hk' _).trans (hc i hi).1,(cell_blk7 hk' _).trans (hc i hi).2.1,(cell_blk7 hk' _).trans (hc i hi).2.2⟩⟩
 ·have hr:=h.p.rows p hp
  simp only [thG,List.mem_cons,List.not_mem_nil,or_false] at hp
  rcases hp with rfl | rfl | rfl
  ·exact SymRow.blk7 hr (hk _ (by omega)) hs
  ·exact SymRow.blk7 hr (hk _ (by omega)) hs
  ·exact SymRow.blk7 hr (hk _ (by omega)) hs
theorem th_caps (n:Nat):(thG n).ps.length<=(thG n).pc/\∀ p∈(thG n).ps,p.right.length<=p.rc:=by
 refine ⟨Nat.le_refl _,fun p hp=>?_⟩
 simp only [thG,List.mem_cons,List.not_mem_nil,or_false] at hp
 rcases hp with rfl | rfl | rfl<;>exact Nat.le_refl _
theorem five_put7 {w:World}{b:Nat}{y:GV}(h:w.heap[b]?=some (bxG y))(x:GV):(((((w.setCell ⟨b,0,none⟩ (.slice x.ta x.ts.length x.tc)).setCell ⟨b,1,none⟩ (.slice x.na x.ns.length x.nc)).setCell ⟨b,2,none⟩ (.int .i64 x.start)).setCell ⟨b,3,none⟩ (.slice x.pa x.ps.length x.pc)).setCell ⟨b,4,none⟩ (.slice x.la x.ls.length x.lc)).heap[b]?=some (bxG x):=hSt (hSt (hSt (hSt (hSt h 0 _) 1 _) 2 _) 3 _) 4 _
theorem five_keep7 {n b:Nat}{w:World}(hb:n<=b)(v0 v1 v2 v3 v4:Value):Below n w (((((w.setCell ⟨b,0,none⟩ v0).setCell ⟨b,1,none⟩ v1).setCell ⟨b,2,none⟩ v2).setCell ⟨b,3,none⟩ v3).setCell ⟨b,4,none⟩ v4) :=
 (((((Below.refl n w).setCell (p:=⟨b,0,none⟩) hb _).setCell (p:=⟨b,1,none⟩) hb _).setCell (p:=⟨b,2,none⟩) hb _).setCell (p:=⟨b,3,none⟩) hb _).setCell (p:=⟨b,4,none⟩) hb _
theorem five_off7 {w:World}{b:Nat}(v0 v1 v2 v3 v4:Value)(j:Nat)(hj:j≠b):(((((w.setCell ⟨b,0,none⟩ v0).setCell ⟨b,1,none⟩ v1).setCell ⟨b,2,none⟩ v2).setCell ⟨b,3,none⟩ v3).setCell ⟨b,4,none⟩ v4).heap[j]?=w.heap[j]?:=by
 rw [Below.heap_setCell _ _ _ _ (fun e=>hj e),Below.heap_setCell _ _ _ _ (fun e=>hj e),Below.heap_setCell _ _ _ _ (fun e=>hj e),Below.heap_setCell _ _ _ _ (fun e=>hj e),Below.heap_setCell _ _ _ _ (fun e=>hj e)]
theorem no_frost7 {w:World}{b:Nat}{C:Array Value}{t:TypeId}(h:w.heap[b]?=some (.cells C t (0,0)))(i:Nat):w.frozen? ⟨b,i,none⟩=false:=by simp [World.frozen?,h]
set_option linter.unusedSimpArgs false in
theorem trimOwn_walk (g:GV)(w:World)(h:GAt 140737488355328 w g)(hpc:g.ps.length<=g.pc)(hcap:∀ p∈g.ps,p.right.length<=p.rc)(hT:TabB w) :
  Calls Tryz.prog 3 #[g.val] w fun e w'=>e=.returned (.bool true)/\Below w.heap.size w w':=by
 have F0:Hid (Below w.heap.size w (w.alloc (bxG g))):=bAl w _
 have X0:Hid ((w.alloc (bxG g)).heap[w.heap.size]?=some (bxG g)):=heap_alloc_new _ _
 have HG:Hid (∀ w',Below w.heap.size w w'->GAt 140737488355328 w' g):=fun w' hb=>h.later hb
 have HT:Hid (∀ w',Below w.heap.size w w'->TabB w'):=fun w' hb=>hT.later hb
 have HPC:Hid (g.ps.length<=g.pc/\∀ p∈g.ps,p.right.length<=p.rc):=⟨hpc,hcap⟩
 clear h hpc hcap hT
 go_enter Tryz.func3,Tryz.ntmps3
 go_wp2_with (go_at_call 4;refine (alive_T _ (HT.out _ F0.out)).mono ?_;rintro e w1 ⟨rfl,b1⟩;have F1:Hid (Below w.heap.size w w1):=F0.out.trans (b1.mono F0.out.size);have X1:Hid (w1.heap[w.heap.size]?=some (bxG g)):=(b1.block _ (lt_of_block X0.out)).trans X0.out;clear b1)
 have KN:Hid (KS w1.heap.size (w1.alloc (.cells #[kNil,kNil,kNil,kNil,kNil,kNil,kNil,kNil,kNil,kNil,kNil,kNil,kNil,kNil,kNil,kNil] 45)) w1.heap.size (fun _=>kNil) (fun _=>[]) w1.heap.size 0):=⟨knew kG w1,fun _ _=>rfl,⟨Nat.le_refl _,Nat.le_refl _⟩,fun _=>Nat.zero_le _,fun _ e he=>(by cases he),fun _ e he=>(by cases he),Nat.zero_le _⟩
 have BK:Hid (Below w1.heap.size w1 (w1.alloc (.cells #[kNil,kNil,kNil,kNil,kNil,kNil,kNil,kNil,kNil,kNil,kNil,kNil,kNil,kNil,kNil,kNil] 45))):=bAl _ _
 have GBX:Hid (∀ w',Below w1.heap.size w1 w'->w'.heap[w.heap.size]?=some (bxG g)):=fun w' hb=>(hb.block _ (lt_of_block X1.out)).trans X1.out
 have BW:Hid (∀ w',Below w1.heap.size w1 w'->Below w.heap.size w w'):=fun w' hb=>F1.out.trans (hb.mono F1.out.size)
 clear F0 X0 X1
 go_loopw [4] (fun z wr=>∃ (i:Nat) (V:Nat->Value) (E:Nat->List LE),i<=3/\z=.int .i64 i/\KS w1.heap.size wr w1.heap.size V E wr.heap.size (15*i)/\Below w1.heap.size w1 wr) (fun z _=>3 - (intOf z).toNat)
 case atStart=>exact ⟨0,_,_,Nat.zero_le _,rfl,KN.out.up BK.out.size,BK.out⟩
 case round =>
  clear KN BK
  obtain ⟨i,V,E,hi,rfl,hS,hb⟩:=hrel
  have hbs:w1.heap.size<=wr.heap.size:=hb.size
  by_cases hlt:i < 3
  ·have ilt:(i:Int) < 3:=by omega
   obtain ⟨x0,x1,x2,x3,x4⟩:=box_cells (GBX.out wr hb)
   have HSZ:Hid (w1.heap.size<=wr.heap.size):=hbs
   obtain ⟨c,hc⟩:∃ c,c=15*i:=⟨_,rfl⟩
   have HC:Hid (c=15*i):=hc
   have hc7:c < 700:=by omega
   rw [<- hc] at hS
   have HS:Hid (KS w1.heap.size wr w1.heap.size V E wr.heap.size c):=hS
   have HB:Hid (Below w1.heap.size w1 wr):=hb
   have ZA:Hid ((wr.alloc (bxG g)).heap[wr.heap.size]?=some (bxG g)):=heap_alloc_new _ _
   clear hS hb hc
   by_cases h1:i=1
   ·have e1:((i:Int) == 1)=true:=by simp [h1]
    go_wp2_with (first
     | (go_at_call 5;refine (three_X _).mono ?_;rintro e w2a ⟨n,rfl,gt,bm,hn⟩;have ZM:Hid (w2a.heap[wr.heap.size]?=some (bxG g)):=(bm.block _ (lt_of_block ZA.out)).trans ZA.out;have HNN:Hid (wr.heap.size+1<=n):=(by have:=hn;simp at this;exact this);have BF:Hid (Below wr.heap.size wr (((((w2a.setCell ⟨wr.heap.size,0,none⟩ (.slice (thG n).ta (thG n).ts.length (thG n).tc)).setCell ⟨wr.heap.size,1,none⟩ (.slice (thG n).na (thG n).ns.length (thG n).nc)).setCell ⟨wr.heap.size,2,none⟩ (.int .i64 (thG n).start)).setCell ⟨wr.heap.size,3,none⟩ (.slice (thG n).pa (thG n).ps.length (thG n).pc)).setCell ⟨wr.heap.size,4,none⟩ (.slice (thG n).la (thG n).ls.length (thG n).lc))):=((bAl wr (bxG g)).trans (bm.mono (bAl wr (bxG g)).size)).trans (five_keep7 (Nat.le_refl _) _ _ _ _ _);have P0:Hid (RD7 w1.heap.size w1.heap.size w1 V E wr.heap.size c (((((w2a.setCell ⟨wr.heap.size,0,none⟩ (.slice (thG n).ta (thG n).ts.length (thG n).tc)).setCell ⟨wr.heap.size,1,none⟩ (.slice (thG n).na (thG n).ns.length (thG n).nc)).setCell ⟨wr.heap.size,2,none⟩ (.int .i64 (thG n).start)).setCell ⟨wr.heap.size,3,none⟩ (.slice (thG n).pa (thG n).ps.length (thG n).pc)).setCell ⟨wr.heap.size,4,none⟩ (.slice (thG n).la (thG n).ls.length (thG n).lc))):=⟨HS.out.later BF.out,HB.out.trans (BF.out.mono HSZ.out),BF.out.size,HSZ.out⟩;have G0:Hid (GAt 140737488355328 (((((w2a.setCell ⟨wr.heap.size,0,none⟩ (.slice (thG n).ta (thG n).ts.length (thG n).tc)).setCell ⟨wr.heap.size,1,none⟩ (.slice (thG n).na (thG n).ns.length (thG n).nc)).setCell ⟨wr.heap.size,2,none⟩ (.int .i64 (thG n).start)).setCell ⟨wr.heap.size,3,none⟩ (.slice (thG n).pa (thG n).ps.length (thG n).pc)).setCell ⟨wr.heap.size,4,none⟩ (.slice (thG n).la (thG n).ls.length (thG n).lc)) (thG n)):=th_keep gt (fun j hj=>five_off7 _ _ _ _ _ j (by have:=HNN.out;omega)) (by simp);have CAP:Hid _:=th_caps n;have BX0:Hid ((((((w2a.setCell ⟨wr.heap.size,0,none⟩ (.slice (thG n).ta (thG n).ts.length (thG n).tc)).setCell ⟨wr.heap.size,1,none⟩ (.slice (thG n).na (thG n).ns.length (thG n).nc)).setCell ⟨wr.heap.size,2,none⟩ (.int .i64 (thG n).start)).setCell ⟨wr.heap.size,3,none⟩ (.slice (thG n).pa (thG n).ps.length (thG n).pc)).setCell ⟨wr.heap.size,4,none⟩ (.slice (thG n).la (thG n).ls.length (thG n).lc)).heap[wr.heap.size]?=some (bxG (thG n))):=five_put7 ZM.out (thG n);clear x0 x1 x2 x3 x4;obtain ⟨z0,z1,z2,z3,z4⟩:=box_cells ZM.out;have f0:=no_frost7 ZM.out 0;have f1:=no_frost7 ZM.out 1;have f2:=no_frost7 ZM.out 2;have f3:=no_frost7 ZM.out 3;have f4:=no_frost7 ZM.out 4;have hz:=lt_of_block ZM.out;obtain ⟨x0,x1,x2,x3,x4⟩:=box_cells BX0.out;clear gt bm hn)
     | (go_at_call 6;refine (bar_own (thG n) _ G0.out CAP.out.1).mono ?_;rintro e w2 ⟨a2,n2,c2,X2,er2,rfl,l2,b2⟩;have P1:Hid _:=P0.out.later b2;have LA1:Hid _:=l2;have G1:Hid _:=G0.out.later b2;have BX1:Hid (w2.heap[wr.heap.size]?=some (bxG (thG n))):=(b2.block _ (lt_of_block BX0.out)).trans BX0.out;clear l2 b2 x0 x1 x2 x3 x4;obtain ⟨x0,x1,x2,x3,x4⟩:=box_cells BX1.out)
     | (go_at_call 7;refine (unr_own (thG n) w2 G1.out CAP.out.1).mono ?_;rintro e w3 ⟨a3,n3,c3,X3,er3,rfl,l3,b3⟩;have P2:Hid _:=P1.out.later b3;have LA2:Hid _:=LA1.out.later 1 rfl b3;have LB2:Hid _:=l3;have G2:Hid _:=G1.out.later b3;have BX2:Hid (w3.heap[wr.heap.size]?=some (bxG (thG n))):=(b3.block _ (lt_of_block BX1.out)).trans BX1.out;clear l3 b3 x0 x1 x2 x3 x4;obtain ⟨x0,x1,x2,x3,x4⟩:=box_cells BX2.out)
     | (go_at_call 8;refine (cir_own (thG n) w3 G2.out CAP.out.1 CAP.out.2 (HT.out _ (BW.out _ P2.out.hb))).mono ?_;rintro e w4 ⟨a4,n4,c4,X4,er4,rfl,l4,b4⟩;have P3:Hid _:=P2.out.later b4;have LA3:Hid _:=LA2.out.later 1 rfl b4;have LB3:Hid _:=LB2.out.later 4 rfl b4;have LC3:Hid _:=l4;have G3:Hid _:=G2.out.later b4;have BX3:Hid (w4.heap[wr.heap.size]?=some (bxG (thG n))):=(b4.block _ (lt_of_block BX2.out)).trans BX2.out;clear l4 b4 x0 x1 x2 x3 x4;obtain ⟨x0,x1,x2,x3,x4⟩:=box_cells BX3.out)
     | (go_at_call 9;refine (tri_own (thG n) w4 G3.out CAP.out.1).mono ?_;rintro e w5 ⟨y5,er5,rfl,o5,b5⟩;have b55:=b5.trans ((bAl w5 (bxG y5)).mono b5.size);have P4:Hid _:=P3.out.later b55;have LA4:Hid _:=LA3.out.later 1 rfl b55;have LB4:Hid _:=LB3.out.later 4 rfl b55;have LC4:Hid _:=LC3.out.later 1 rfl b55;have D4:Hid _:=PN7.new o5 b5.size;have G4:Hid _:=G3.out.later b55;have BX4:Hid ((w5.alloc (bxG y5)).heap[wr.heap.size]?=some (bxG (thG n))):=(b55.block _ (lt_of_block BX3.out)).trans BX3.out;clear o5 b5 b55 x0 x1 x2 x3 x4;obtain ⟨x0,x1,x2,x3,x4⟩:=box_cells BX4.out)
     | (go_at_call 10;refine (wel_own (thG n) (w5.alloc (bxG y5)) G4.out CAP.out.1 (HT.out _ (BW.out _ P4.out.hb))).mono ?_;rintro e w6 ⟨y6,er6,rfl,o6,b6⟩;have b66:=b6.trans ((bAl w6 (bxG y6)).mono b6.size);have P5:Hid _:=P4.out.later b66;have LA5:Hid _:=LA4.out.later 1 rfl b66;have LB5:Hid _:=LB4.out.later 4 rfl b66;have LC5:Hid _:=LC4.out.later 1 rfl b66;have D5:Hid _:=D4.out.later b66;have E5:Hid _:=PN7.new o6 b6.size;have HS5:Hid (w5.heap.size < (w5.alloc (bxG y5)).heap.size):=(by show _ < _;simp);clear o6 b6 b66 x0 x1 x2 x3 x4)
     | (go_at_call 11;refine (P5.out.ints LA5.out P0.out.mz (by omega)).mono ?_;rintro e w7 ⟨rfl,V7,E7,r7,q7⟩;have P6:Hid _:=r7;have LB6:Hid _:=LB5.out.keep 4 rfl q7;have LC6:Hid _:=LC5.out.keep 1 rfl q7;have D6:Hid _:=D5.out.keep q7;have E6:Hid _:=E5.out.keep q7;clear r7 q7 P5)
     | (go_at_call 12;refine (P6.out.syms LB6.out (Nat.le_refl _) (by omega)).mono ?_;rintro e w8 ⟨rfl,V8,E8,r8,q8⟩;have P7:Hid _:=r8;have LC7:Hid _:=LC6.out.keep 1 rfl q8;have D7:Hid _:=D6.out.keep q8;have E7':Hid _:=E6.out.keep q8;clear r8 q8)
     | (go_at_call 11;refine (P7.out.ints LC7.out (Nat.le_refl _) (by omega)).mono ?_;rintro e w9 ⟨rfl,V9,E9,r9,q9⟩;have P8:Hid _:=r9;have D8:Hid _:=D7.out.keep q9;have E8':Hid _:=E7'.out.keep q9;obtain ⟨p0,p1,p2,p3,p4⟩:=box_cells D8.out.bx;clear r9 q9)
     | (go_at_call 13;refine (P8.out.gram D8.out (Nat.le_refl _) (by omega)).mono ?_;rintro e w10 ⟨rfl,V10,E10,r10,q10⟩;have P9:Hid _:=r10;have E9':Hid _:=E8'.out.keep q10;clear p0 p1 p2 p3 p4;obtain ⟨p0,p1,p2,p3,p4⟩:=box_cells E9'.out.bx;clear r10 q10 P8)
     | (go_at_call 13;refine (P9.out.gram E9'.out (Nat.le_of_lt HS5.out) (by omega)).mono ?_;rintro e w11 ⟨rfl,V11,E11,r11,q11⟩;have P10:Hid _:=r11;clear p0 p1 p2 p3 p4;clear r11 q11))
    go_roundw
    case rel =>
     refine ⟨i+1,V11,E11,by omega,by go_num,?_,P10.out.hb⟩
     rw [show 15*(i+1)=c+1+1+1+6+6 by have:=HC.out;omega]
     exact P10.out.ks.up P10.out.mz
    case measure=>simp [intOf];omega
   ·have e1:((i:Int) == 1)=false:=by simp only [beq_eq_false_iff_ne,ne_eq];omega
    have bA:=bAl wr (bxG g)
    have P0:Hid (RD7 w1.heap.size w1.heap.size w1 V E wr.heap.size c (wr.alloc (bxG g))):=⟨HS.out.later bA,HB.out.trans (bA.mono HSZ.out),bA.size,HSZ.out⟩
    have CAP:Hid (g.ps.length<=g.pc/\∀ p∈g.ps,p.right.length<=p.rc):=HPC
    have BX0:Hid ((wr.alloc (bxG g)).heap[wr.heap.size]?=some (bxG g)):=ZA
    have G0:Hid (GAt 140737488355328 (wr.alloc (bxG g)) g):=HG.out _ (BW.out _ P0.out.hb)
    obtain ⟨y0,y1,y2,y3,y4⟩:=box_cells BX0.out
    clear bA
    go_wp2_with (first
     | (go_at_call 6;refine (bar_own g _ G0.out CAP.out.1).mono ?_;rintro e w2 ⟨a2,n2,c2,X2,er2,rfl,l2,b2⟩;have P1:Hid _:=P0.out.later b2;have LA1:Hid _:=l2;have G1:Hid _:=G0.out.later b2;have BX1:Hid (w2.heap[wr.heap.size]?=some (bxG g)):=(b2.block _ (lt_of_block BX0.out)).trans BX0.out;clear l2 b2 x0 x1 x2 x3 x4 y0 y1 y2 y3 y4;obtain ⟨x0,x1,x2,x3,x4⟩:=box_cells BX1.out)
     | (go_at_call 7;refine (unr_own g w2 G1.out CAP.out.1).mono ?_;rintro e w3 ⟨a3,n3,c3,X3,er3,rfl,l3,b3⟩;have P2:Hid _:=P1.out.later b3;have LA2:Hid _:=LA1.out.later 1 rfl b3;have LB2:Hid _:=l3;have G2:Hid _:=G1.out.later b3;have BX2:Hid (w3.heap[wr.heap.size]?=some (bxG g)):=(b3.block _ (lt_of_block BX1.out)).trans BX1.out;clear l3 b3 x0 x1 x2 x3 x4;obtain ⟨x0,x1,x2,x3,x4⟩:=box_cells BX2.out)
     | (go_at_call 8;refine (cir_own g w3 G2.out CAP.out.1 CAP.out.2 (HT.out _ (BW.out _ P2.out.hb))).mono ?_;rintro e w4 ⟨a4,n4,c4,X4,er4,rfl,l4,b4⟩;have P3:Hid _:=P2.out.later b4;have LA3:Hid _:=LA2.out.later 1 rfl b4;have LB3:Hid _:=LB2.out.later 4 rfl b4;have LC3:Hid _:=l4;have G3:Hid _:=G2.out.later b4;have BX3:Hid (w4.heap[wr.heap.size]?=some (bxG g)):=(b4.block _ (lt_of_block BX2.out)).trans BX2.out;clear l4 b4 x0 x1 x2 x3 x4;obtain ⟨x0,x1,x2,x3,x4⟩:=box_cells BX3.out)
     | (go_at_call 9;refine (tri_own g w4 G3.out CAP.out.1).mono ?_;rintro e w5 ⟨y5,er5,rfl,o5,b5⟩;have b55:=b5.trans ((bAl w5 (bxG y5)).mono b5.size);have P4:Hid _:=P3.out.later b55;have LA4:Hid _:=LA3.out.later 1 rfl b55;have LB4:Hid _:=LB3.out.later 4 rfl b55;have LC4:Hid _:=LC3.out.later 1 rfl b55;have D4:Hid _:=PN7.new o5 b5.size;have G4:Hid _:=G3.out.later b55;have BX4:Hid ((w5.alloc (bxG y5)).heap[wr.heap.size]?=some (bxG g)):=(b55.block _ (lt_of_block BX3.out)).trans BX3.out;clear o5 b5 b55 x0 x1 x2 x3 x4;obtain ⟨x0,x1,x2,x3,x4⟩:=box_cells BX4.out)
     | (go_at_call 10;refine (wel_own g (w5.alloc (bxG y5)) G4.out CAP.out.1 (HT.out _ (BW.out _ P4.out.hb))).mono ?_;rintro e w6 ⟨y6,er6,rfl,o6,b6⟩;have b66:=b6.trans ((bAl w6 (bxG y6)).mono b6.size);have P5:Hid _:=P4.out.later b66;have LA5:Hid _:=LA4.out.later 1 rfl b66;have LB5:Hid _:=LB4.out.later 4 rfl b66;have LC5:Hid _:=LC4.out.later 1 rfl b66;have D5:Hid _:=D4.out.later b66;have E5:Hid _:=PN7.new o6 b6.size;have HS5:Hid (w5.heap.size < (w5.alloc (bxG y5)).heap.size):=(by show _ < _;simp);clear o6 b6 b66 x0 x1 x2 x3 x4)
     | (go_at_call 11;refine (P5.out.ints LA5.out P0.out.mz (by omega)).mono ?_;rintro e w7 ⟨rfl,V7,E7,r7,q7⟩;have P6:Hid _:=r7;have LB6:Hid _:=LB5.out.keep 4 rfl q7;have LC6:Hid _:=LC5.out.keep 1 rfl q7;have D6:Hid _:=D5.out.keep q7;have E6:Hid _:=E5.out.keep q7;clear r7 q7 P5)
     | (go_at_call 12;refine (P6.out.syms LB6.out (Nat.le_refl _) (by omega)).mono ?_;rintro e w8 ⟨rfl,V8,E8,r8,q8⟩;have P7:Hid _:=r8;have LC7:Hid _:=LC6.out.keep 1 rfl q8;have D7:Hid _:=D6.out.keep q8;have E7':Hid _:=E6.out.keep q8;clear r8 q8)
     | (go_at_call 11;refine (P7.out.ints LC7.out (Nat.le_refl _) (by omega)).mono ?_;rintro e w9 ⟨rfl,V9,E9,r9,q9⟩;have P8:Hid _:=r9;have D8:Hid _:=D7.out.keep q9;have E8':Hid _:=E7'.out.keep q9;obtain ⟨p0,p1,p2,p3,p4⟩:=box_cells D8.out.bx;clear r9 q9)
     | (go_at_call 13;refine (P8.out.gram D8.out (Nat.le_refl _) (by omega)).mono ?_;rintro e w10 ⟨rfl,V10,E10,r10,q10⟩;have P9:Hid _:=r10;have E9':Hid _:=E8'.out.keep q10;clear p0 p1 p2 p3 p4;obtain ⟨p0,p1,p2,p3,p4⟩:=box_cells E9'.out.bx;clear r10 q10 P8)
     | (go_at_call 13;refine (P9.out.gram E9'.out (Nat.le_of_lt HS5.out) (by omega)).mono ?_;rintro e w11 ⟨rfl,V11,E11,r11,q11⟩;have P10:Hid _:=r11;clear p0 p1 p2 p3 p4;clear r11 q11))
    go_roundw
    case rel =>
     refine ⟨i+1,V11,E11,by omega,by go_num,?_,P10.out.hb⟩
     rw [show 15*(i+1)=c+1+1+1+6+6 by have:=HC.out;omega]
     exact P10.out.ks.up P10.out.mz
    case measure=>simp [intOf];omega
  ·obtain rfl:i=3:=by omega
   have ilt:¬ ((3:Nat):Int) < 3:=by omega
   have HSS:Hid (KS w1.heap.size wr w1.heap.size V E wr.heap.size (15*3)/\Below w1.heap.size w1 wr):=⟨hS,hb⟩
   clear hS hb
   go_wp2_with (go_at_call 14;refine (book_apartG w1.heap.size w1.heap.size V E wr HSS.out.1.ki HSS.out.1.no (Nat.le_trans HSS.out.1.few.1 (by omega)) (Nat.le_trans HSS.out.1.few.2 (by omega)) HSS.out.1.nines HSS.out.1.num).mono ?_;rintro e w9 ⟨rfl,b9⟩)
   go_ret
   exact ⟨rfl,BW.out _ (HSS.out.2.trans b9)⟩
end Go.Proofs.YthaamdognbncnaaGreatDoor
