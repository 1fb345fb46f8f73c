import Derived.Test.YtockbobpmiagiaaGreatDoorPTM4ToTM9
namespace Go.Proofs.YtockbobpmiagiaaGreatDoor
set_option linter.unusedVariables false
set_option maxRecDepth 100000
set_option maxHeartbeats 16000000
open Go.RowKit
structure FW (g:GV)(w:World)(vb mb:Nat)(M:List Bool)(wr:World):Prop where
 len:M.length=g.ns.length
 lst:∀ C,ClM g.ps true C->∀ i,M.getD i false=true->C i
 bb:BB wr mb M
 var:wr.heap[vb]?=some (.cells #[.slice (some ⟨mb,0,none⟩) g.ns.length g.ns.length] 75)
 ord:w.heap.size<=mb/\w.heap.size<=vb/\vb≠mb
 bel:Below w.heap.size w wr
section
variable {g:GV} {w wr w':World} {vb mb:Nat} {M:List Bool}
theorem FW.any (h:FW g w vb mb M wr)(hb:Below wr.heap.size wr w'):FW g w vb mb M w' :=
 ⟨h.len,h.lst,h.bb.later hb,(hb.block _ (lt_of_block h.var)).trans h.var,h.ord,h.bel.trans (hb.mono h.bel.size)⟩
theorem FW.set (h:FW g w vb mb M wr){p:PV}(hp:p∈g.ps)(hw:wU_ true M p.right=true):FW g w vb mb (M.set p.left.toNat true) (wr.setCell ⟨mb,p.left.toNat,none⟩ (.bool true)) :=
 ⟨by rw [List.length_set];exact h.len,sound_set hp h.lst hw,h.bb.set _ _,(Below.heap_setCell _ _ _ _ h.ord.2.2).trans h.var,h.ord,h.bel.setCell (p:=⟨mb,p.left.toNat,none⟩) h.ord.1 _⟩
end
def FsO (g:GV)(w:World)(vb mb:Nat)(M:List Bool)(p:PV)(e:Ending)(w':World):Prop:=∃ bo:Bool,e=.returned (.bool bo)/\((bo=false/\(wU_ true M p.right=true->M.getD p.left.toNat false=true)/\FW g w vb mb M w')∨(bo=true/\M.getD p.left.toNat false=false/\wU_ true M p.right=true/\FW g w vb mb (M.set p.left.toNat true) w'))
theorem fstep_P (g:GV)(w wr:World)(vb mb:Nat)(M:List Bool)(hfg:FG w g)(h:FW g w vb mb M wr)(p:PV)(hp:p∈g.ps) :
  Calls Tryz.prog 53 #[.agg #[.int .i64 p.left,.slice p.ra p.right.length p.rc,.int .i64 p.prec],.pointer (some ⟨vb,0,none⟩)] wr fun e w'=>FsO g w vb mb M p e w':=by
 have hfr:=hfg.later h.bel
 obtain ⟨l0,l1⟩:=hfr.left _ hp
 have hrow:=hfr.p.rows _ hp
 have hrl:=hfr.rl _ hp
 have hsy:=hfr.sym _ hp
 have hnl:=hfr.nl
 obtain ⟨wb,hwb⟩:∃ wb:World,wb=wr.alloc (.cells #[.int .i64 p.left,.slice p.ra p.right.length p.rc,.int .i64 p.prec] 44):=⟨_,rfl⟩
 have bB:Below wr.heap.size wr wb:=by rw [hwb];exact bAl _ _
 have h1:=h.any bB
 have LC:Hid (Calls Tryz.prog 54 #[.slice (some ⟨mb,0,none⟩) g.ns.length g.ns.length,.slice p.ra p.right.length p.rc] wb fun e w'=>e=.returned (.bool (wU_ true M p.right))/\Below wb.heap.size wb w'):=by
  have:=fruitList_P (some ⟨mb,0,none⟩) g.ns.length M p.ra p.rc p.right wb h1.bb.row (hrow.later (Nat.le_refl _) bB) (by omega) (by rw [h.len];omega) (fun s hs e=>by
   rcases hsy s hs with q | q
   ·omega
   ·rw [h.len];exact q.2)
  rwa [h.len] at this
 have SET:Hid (∀ w',FW g w vb mb M w'->wU_ true M p.right=true->FW g w vb mb (M.set p.left.toNat true) (w'.setCell ⟨mb,p.left.toNat,none⟩ (.bool true))):=fun w' hf hw=>hf.set hp hw
 have H1:Hid (FW g w vb mb M wb):=h1
 have cB:wb.heap[wr.heap.size]?=some (.cells #[.int .i64 p.left,.slice p.ra p.right.length p.rc,.int .i64 p.prec] 44):=by rw [hwb];exact heap_alloc_new _ _
 have HBX:Hid (∀ w',Below wb.heap.size wb w'->w'.cell? ⟨wr.heap.size,0,none⟩=some (.int .i64 p.left)/\w'.cell? ⟨wr.heap.size,1,none⟩=some (.slice p.ra p.right.length p.rc)/\w'.cell? ⟨vb,0,none⟩=some (.slice (some ⟨mb,0,none⟩) g.ns.length g.ns.length)):=fun w' hb=>⟨(cQa ((hb.block _ (lt_of_block cB)).trans cB)).trans rfl,(cQa ((hb.block _ (lt_of_block cB)).trans cB)).trans rfl,(cQa (h1.any hb).var).trans rfl⟩
 obtain ⟨m,hm⟩:∃ m:Nat,p.left=(m:Int):=⟨p.left.toNat,by omega⟩
 have hml:m < M.length:=by rw [h.len];omega
 have mlt:(m:Int) < (g.ns.length:Int):=by omega
 have CM:Hid (∀ w',FW g w vb mb M w'->w'.cell? ⟨mb,m,none⟩=some (.bool (M.getD m false))/\w'.frozen? ⟨mb,m,none⟩=false):=fun w' hf=>⟨hf.bb.cell hml,hf.bb.free m⟩
 have O1:Hid (∀ e w',(wU_ true M p.right=true->M.getD m false=true)->FW g w vb mb M w'->e=.returned (.bool false)->FsO g w vb mb M p e w'):=fun e w' q1 q2 q3=>⟨false,q3,.inl ⟨rfl,by rw [hm];exact q1,q2⟩⟩
 have O2:Hid (∀ e w',M.getD m false=false->wU_ true M p.right=true->FW g w vb mb (M.set m true) w'->e=.returned (.bool true)->FsO g w vb mb M p e w'):=fun e w' q1 q0 q2 q3=>⟨true,q3,.inr ⟨rfl,by rw [hm];exact q1,q0,by rw [hm];exact q2⟩⟩
 have SET2:Hid (∀ w',FW g w vb mb M w'->wU_ true M p.right=true->FW g w vb mb (M.set m true) (w'.setCell ⟨mb,m,none⟩ (.bool true))):=fun w' hf hw=>by
  have:=SET.out w' hf hw
  rw [hm] at this
  exact this
 rw [hm] at HBX hwb ⊢
 obtain ⟨b0,b1,b2⟩:=HBX.out wb (Below.refl _ _)
 obtain ⟨cm,fm⟩:=CM.out wb h1
 generalize FsO g w vb mb M p=POST at *
 generalize p.ra=pra at *
 generalize p.rc=prc at *
 generalize p.prec=pp at *
 obtain ⟨pl,hpl⟩:∃ pl,p.right.length=pl:=⟨_,rfl⟩
 rw [hpl] at LC HBX hwb b1 ⊢
 obtain ⟨wv,hwv⟩:∃ wv,wU_ true M p.right=wv:=⟨_,rfl⟩
 rw [hwv] at LC
 simp only [hwv] at O1 O2 SET2
 obtain ⟨mv,hmv⟩:∃ mv,M.getD m false=mv:=⟨_,rfl⟩
 rw [hmv] at cm
 simp only [hmv] at O1 O2 CM
 clear hfr hrow hrl hsy h h1 bB cB SET hp hpl hwv hmv hml hm hfg l0 l1
 subst hwb
 go_enter Tryz.func53,Tryz.ntmps53
 cases mv
 ·cases wv
  ·go_wp2_with (go_at_call 54;refine LC.out.mono ?_;rintro e w2 ⟨rfl,q2⟩;have Q2:Hid (Below _ _ w2):=q2;clear q2)
   exact O1.out _ _ (by simp) (H1.out.any Q2.out) rfl
  ·go_wp2_with (go_at_call 54;refine LC.out.mono ?_;rintro e w2 ⟨rfl,q2⟩;have Q2:Hid (Below _ _ w2):=q2;clear q2;obtain ⟨b0',b1',b2'⟩:=HBX.out w2 Q2.out;obtain ⟨cm',fm'⟩:=CM.out w2 (H1.out.any Q2.out);have R:Hid (FW g w vb mb (M.set m true) (w2.setCell ⟨mb,m,none⟩ (.bool true))):=SET2.out w2 (H1.out.any Q2.out) rfl)
   exact O2.out _ _ (by simp) (by simp) R.out rfl
 ·go_wp2
  exact O1.out _ _ (by simp) H1.out rfl
theorem fstep_two {g:GV}{w:World}{vb mb:Nat}{M:List Bool}{p:PV}{e:Ending}{w':World}(h:FsO g w vb mb M p e w'):(¬ (M.getD p.left.toNat false=false/\wU_ true M p.right=true)->e=.returned (.bool false)/\FW g w vb mb M w')/\(M.getD p.left.toNat false=false/\wU_ true M p.right=true->e=.returned (.bool true)/\FW g w vb mb (M.set p.left.toNat true) w'):=by
 obtain ⟨bo,rfl,⟨rfl,h1,h2⟩ | ⟨rfl,h1,h2,h3⟩⟩:=h
 ·refine ⟨fun _=>⟨rfl,h2⟩,fun q=>?_⟩
  have:=h1 q.2
  rw [q.1] at this
  cases this
 ·exact ⟨fun q=>absurd ⟨h1,h2⟩ q,fun _=>⟨rfl,h3⟩⟩
theorem settle_F (g:GV)(w w1:World)(vb mb:Nat)(M0:List Bool)(hfg:FG w g)(h:FW g w vb mb M0 w1) :
  Calls Tryz.prog 52 #[.slice g.pa g.ps.length g.pc,.func (.func 53) #[] #[.pointer (some ⟨vb,0,none⟩)]] w1 fun e w'=>e=.returned (.tuple #[])/\∃ M,FW g w vb mb M w'/\MLst g.ps g.ns.length true M:=by
 have HFG:Hid (∀ w',Below w.heap.size w w'->FG w' g):=fun w' hb=>hfg.later hb
 have HST:Hid (∀ M wr p,FW g w vb mb M wr->p∈g.ps->Calls Tryz.prog 53 #[.agg #[.int .i64 p.left,.slice p.ra p.right.length p.rc,.int .i64 p.prec],.pointer (some ⟨vb,0,none⟩)] wr fun e w'=>FsO g w vb mb M p e w'):=fun M wr p hf hp=>fstep_P g w wr vb mb M hfg hf p hp
 have H0:Hid (FW g w vb mb M0 w1):=h
 have hpl:=hfg.pl
 clear h hfg
 go_enter Tryz.func52,Tryz.ntmps52
 go_wp2
 go_loopw [4] (fun z wr=>∃ (bo:Bool) (M:List Bool),z=.bool bo/\FW g w vb mb M wr/\(bo=false->∀ p∈g.ps,wU_ true M p.right=true->M.getD p.left.toNat false=true)) (fun z wr=>mesB mb wr+tOf z)
 case atStart=>exact ⟨true,_,rfl,H0.out,fun h=>by cases h⟩
 case round =>
  clear H0
  obtain ⟨bo,M,rfl,hW,hcl⟩:=hrel
  have HW:Hid (FW g w vb mb M wr):=hW
  have HM:Hid (mesB mb wr=fU_ M):=mesB_of hW.bb
  cases bo
  ·have R:Hid (MLst g.ps g.ns.length true M):=⟨hW.len,hcl rfl,hW.lst⟩
   clear hW hcl
   go_wp2
   go_end0
   exact ⟨rfl,M,HW.out,R.out⟩
  ·clear hcl hW
   obtain ⟨wz,rfl⟩:∃ wz:World,wz=wr:=⟨_,rfl⟩
   go_wp2
   go_loopw [4,10] (fun z i wr2=>∃ (k:Nat) (b2:Bool) (M2:List Bool),k<=g.ps.length/\z=.bool b2/\i=.int .i64 k/\FW g w vb mb M2 wr2/\fU_ M2+(if b2 then 1 else 0)<=fU_ M/\(b2=false->M2=M/\∀ j,j < k->wU_ true M (g.ps.getD j .none).right=true->M.getD (g.ps.getD j .none).left.toNat false=true)) (fun _ i _=>g.ps.length - (intOf i).toNat)
   case atStart=>exact ⟨0,false,M,Nat.zero_le _,rfl,rfl,HW.out,by simp,fun _=>⟨rfl,fun j hj=>absurd hj (Nat.not_lt_zero j)⟩⟩
   case round =>
    obtain ⟨k,b2,M2,hk,rfl,rfl,hW2,hle,hcl⟩:=hrel
    by_cases hlt:k < g.ps.length
    ·obtain ⟨b,o,hpa,hbl,hc⟩:=(HFG.out _ hW2.bel).p.cells (by intro e;rw [e] at hlt;simp at hlt)
     obtain ⟨c0,c1,c2⟩:=hc k hlt
     have klt:(k:Int) < (g.ps.length:Int):=by omega
     have hmem:g.ps.getD k .none∈g.ps:=by simp [List.getD,hlt]
     have hleft:=(HFG.out _ hW2.bel).left _ hmem
     have CC:Hid (∀ bx,Below wr.heap.size wr bx->Calls Tryz.prog 53 #[.agg #[.int .i64 (g.ps.getD k .none).left,.slice (g.ps.getD k .none).ra (g.ps.getD k .none).right.length (g.ps.getD k .none).rc,.int .i64 (g.ps.getD k .none).prec],.pointer (some ⟨vb,0,none⟩)] bx fun e w'=>FsO g w vb mb M2 (g.ps.getD k .none) e w'):=fun bx hb=>HST.out M2 bx _ (hW2.any hb) hmem
     by_cases hq:M2.getD (g.ps.getD k .none).left.toNat false=false/\wU_ true M2 (g.ps.getD k .none).right=true
     ·have hs:=falseU_set M2 (g.ps.getD k .none).left.toNat (by rw [hW2.len];omega) hq.1
      have HF:Hid (fU_ (M2.set (g.ps.getD k .none).left.toNat true)+(if true then 1 else 0)<=fU_ M):=by
       show _+1<=_
       have h1:fU_ M2<=fU_ M:=Nat.le_trans (Nat.le_add_right _ _) hle
       omega
      have C2:Hid (∀ bx,Below wr.heap.size wr bx->Calls Tryz.prog 53 #[.agg #[.int .i64 (g.ps.getD k .none).left,.slice (g.ps.getD k .none).ra (g.ps.getD k .none).right.length (g.ps.getD k .none).rc,.int .i64 (g.ps.getD k .none).prec],.pointer (some ⟨vb,0,none⟩)] bx fun e w'=>e=.returned (.bool true)/\FW g w vb mb (M2.set (g.ps.getD k .none).left.toNat true) w'):=fun bx hb=>(CC.out bx hb).mono fun e w' h=>(fstep_two h).2 hq
      clear hle hcl hleft hmem hc hq hs CC hW2
      generalize g.ps.getD k .none=p at *
      rw [hpa] at *
      obtain ⟨bx,hbx⟩:∃ bx:World,bx=wr.alloc (.cells #[.int .i64 p.left,.slice p.ra p.right.length p.rc,.int .i64 p.prec] 44):=⟨_,rfl⟩
      have C3:Hid (Calls Tryz.prog 53 #[.agg #[.int .i64 p.left,.slice p.ra p.right.length p.rc,.int .i64 p.prec],.pointer (some ⟨vb,0,none⟩)] bx fun e w'=>e=.returned (.bool true)/\FW g w vb mb (M2.set p.left.toNat true) w'):=C2.out bx (by rw [hbx];exact bAl _ _)
      clear C2 hpa
      go_wp2_with (go_at_call 53;rw [<- hbx];refine C3.out.mono ?_;rintro e w3 ⟨rfl,h3⟩;have F3:Hid (FW g w vb mb (M2.set p.left.toNat true) w3):=h3;clear h3)
      go_roundw
      case rel=>exact ⟨k+1,true,_,by omega,rfl,by go_num,F3.out,HF.out,fun h=>by cases h⟩
      case measure=>simp [intOf];omega
     ·have HC2:Hid (b2=false->M2=M/\∀ j,j < k+1->wU_ true M (g.ps.getD j .none).right=true->M.getD (g.ps.getD j .none).left.toNat false=true):=fun hb=>by
       obtain ⟨e,q3⟩:=hcl hb
       refine ⟨e,fun j hj hw=>?_⟩
       by_cases r:j=k
       ·subst r
        rw [<- e] at hw ⊢
        cases hv:M2.getD (g.ps.getD j .none).left.toNat false with
        | true=>rfl
        | false=>exact absurd ⟨hv,hw⟩ hq
       ·exact q3 j (by omega) hw
      have HF:Hid (fU_ M2+(if b2 then 1 else 0)<=fU_ M):=hle
      have C2:Hid (∀ bx,Below wr.heap.size wr bx->Calls Tryz.prog 53 #[.agg #[.int .i64 (g.ps.getD k .none).left,.slice (g.ps.getD k .none).ra (g.ps.getD k .none).right.length (g.ps.getD k .none).rc,.int .i64 (g.ps.getD k .none).prec],.pointer (some ⟨vb,0,none⟩)] bx fun e w'=>e=.returned (.bool false)/\FW g w vb mb M2 w'):=fun bx hb=>(CC.out bx hb).mono fun e w' h=>(fstep_two h).1 hq
      clear hle hcl hleft hmem hc hq CC hW2
      generalize g.ps.getD k .none=p at c0 c1 c2 C2
      rw [hpa] at *
      obtain ⟨bx,hbx⟩:∃ bx:World,bx=wr.alloc (.cells #[.int .i64 p.left,.slice p.ra p.right.length p.rc,.int .i64 p.prec] 44):=⟨_,rfl⟩
      have C3:Hid (Calls Tryz.prog 53 #[.agg #[.int .i64 p.left,.slice p.ra p.right.length p.rc,.int .i64 p.prec],.pointer (some ⟨vb,0,none⟩)] bx fun e w'=>e=.returned (.bool false)/\FW g w vb mb M2 w'):=C2.out bx (by rw [hbx];exact bAl _ _)
      clear C2 hpa
      go_wp2_with (go_at_call 53;rw [<- hbx];refine C3.out.mono ?_;rintro e w3 ⟨rfl,h3⟩;have F3:Hid (FW g w vb mb M2 w3):=h3;clear h3)
      go_roundw
      case rel=>exact ⟨k+1,b2,M2,by omega,rfl,by go_num,F3.out,HF.out,HC2.out⟩
      case measure=>simp [intOf];omega
    ·have klt:¬ (k:Int) < (g.ps.length:Int):=by omega
     have R:Hid (FW g w vb mb M2 wr/\(b2=false->∀ p∈g.ps,wU_ true M2 p.right=true->M2.getD p.left.toNat false=true)):=⟨hW2,fun hb p hp h=>by
      obtain ⟨e,q⟩:=hcl hb
      obtain ⟨i,hi,rfl⟩:=List.getElem_of_mem hp
      have e2:g.ps.getD i .none=g.ps[i]:=by simp [List.getD,hi]
      rw [e] at h ⊢
      have:=q i (by omega)
      rw [e2] at this
      exact this h⟩
     have ME:Hid (mesB mb wr+(if b2 then 1 else 0)<=mesB mb wz):=by
      show _<=_
      rw [mesB_of hW2.bb,HM.out]
      exact hle
     clear hW2 hcl hle
     go_wp2
     go_roundw
     case rel=>exact ⟨b2,M2,rfl,R.out.1,R.out.2⟩
     case measure =>
      have:=ME.out
      cases b2<;>simp [tOf] at this ⊢<;>omega
theorem fruitful_P (g:GV)(w:World)(hfg:FG w g) :
  Calls Tryz.prog 35 #[g.val] w fun e w'=>∃ b M,e=.returned (.slice (some ⟨b,0,none⟩) g.ns.length g.ns.length)/\MLst g.ps g.ns.length true M/\BB w' b M/\w.heap.size<=b/\Below w.heap.size w w':=by
 have X0:Hid ((w.alloc (gBox g)).heap[w.heap.size]?=some (gBox g)):=heap_alloc_new _ _
 have hmk:=make_boolF g.ns.length (by have:=hfg.nl;omega)
 obtain ⟨x0,x1,x2,x3,x4⟩:=gbc X0.out
 obtain ⟨wm,hwm⟩:∃ wm:World,wm=(w.alloc (gBox g)).alloc (.cells (madeCells #[.bool false] g.ns.length) 4):=⟨_,rfl⟩
 obtain ⟨wv,hwv⟩:∃ wv:World,wv=wm.alloc (.cells #[.slice (some ⟨w.heap.size+1,0,none⟩) g.ns.length g.ns.length] 75):=⟨_,rfl⟩
 have b0:Below w.heap.size w (w.alloc (gBox g)):=bAl _ _
 have bm:Below (w.alloc (gBox g)).heap.size (w.alloc (gBox g)) wm:=by rw [hwm];exact bAl _ _
 have bv:Below wm.heap.size wm wv:=by rw [hwv];exact bAl _ _
 have z0:(w.alloc (gBox g)).heap.size=w.heap.size+1:=by simp
 have zm:wm.heap.size=w.heap.size+1+1:=by rw [hwm];simp
 have b0m:Below w.heap.size w wm:=b0.trans (bm.mono b0.size)
 have b0v:Below w.heap.size w wv:=b0m.trans (bv.mono b0m.size)
 have F0:Hid (FW g w (w.heap.size+1+1) (w.heap.size+1) (List.replicate g.ns.length false) wv):=by
  refine ⟨by simp,fun C _ i hi=>?_,?_,?_,by omega,b0v⟩
  ·rw [rep_no] at hi
   cases hi
  ·have:=BB.made (w.alloc (gBox g)) g.ns.length
   rw [z0,<- hwm] at this
   exact this.later bv
  ·have:=heap_alloc_new wm (.cells #[.slice (some ⟨w.heap.size+1,0,none⟩) g.ns.length g.ns.length] 75)
   rw [zm,<- hwv] at this
   exact this
 have ST:Hid (Calls Tryz.prog 52 #[.slice g.pa g.ps.length g.pc,.func (.func 53) #[] #[.pointer (some ⟨w.heap.size+1+1,0,none⟩)]] wv fun e w'=>e=.returned (.tuple #[])/\∃ M,FW g w (w.heap.size+1+1) (w.heap.size+1) M w'/\MLst g.ps g.ns.length true M):=settle_F g w wv _ _ _ hfg F0.out
 have XV:Hid (wv.heap[w.heap.size]?=some (gBox g)):=by
  have h1:=(bm.block _ (by omega)).trans X0.out
  exact (bv.block _ (by omega)).trans h1
 have hnl:=hfg.nl
 clear hfg b0 bm bv b0m b0v z0 zm F0
 rw [hwm] at hwv
 clear hwm wm
 go_enter Tryz.func35,Tryz.ntmps35
 obtain ⟨y0,y1,y2,y3,y4⟩:=gbc XV.out
 go_wp2_with (go_at_call 52;first | (rw [<- hwv];refine ST.out.mono ?_;rintro e w2 ⟨rfl,M,f2,m2⟩;have F2:Hid (FW g w (w.heap.size+1+1) (w.heap.size+1) M w2/\MLst g.ps g.ns.length true M):=⟨f2,m2⟩;have cv:w2.cell? ⟨w.heap.size+1+1,0,none⟩=some (.slice (some ⟨w.heap.size+1,0,none⟩) g.ns.length g.ns.length):=(cQa f2.var).trans rfl;clear f2 m2))
 go_ret
 exact ⟨w.heap.size+1,M,rfl,F2.out.2,F2.out.1.bb,by omega,F2.out.1.bel⟩
open Go.RowKit Go.Shelf
theorem barren_P (g:GV)(w:World)(hfg:FG w g) :
  Calls Tryz.prog 22 #[g.val] w fun e w'=>∃ v M,e=.returned v/\MLst g.ps g.ns.length true M/\LBs w (offU false M g.ns.length) v w':=by
 have X0:Hid ((w.alloc (gBox g)).heap[w.heap.size]?=some (gBox g)):=heap_alloc_new _ _
 have HFG:Hid (FG (w.alloc (gBox g)) g):=hfg.later (bAl _ _)
 obtain ⟨x0,x1,x2,x3,x4⟩:=gbc X0.out
 have hnl:=hfg.nl.2
 clear hfg
 go_enter Tryz.func22,Tryz.ntmps22
 go_wp2_with (go_at_call 35;refine (fruitful_P g _ HFG.out).mono ?_;rintro e w3 ⟨mb,M,rfl,m3,bb3,l3,b3⟩;have B3:Hid (MLst g.ps g.ns.length true M/\BB w3 mb M/\Below w.heap.size w w3):=⟨m3,bb3,(bAl w _).trans (b3.mono (bAl w _).size)⟩;clear m3 bb3 l3 b3 x0 x1 x2 x3 x4)
 go_loopw [3,9] (fun v i wr=>∃ k:Nat,k<=g.ns.length/\i=.int .i64 k/\IL wr v (offU false M k)/\(∀ j,v.ownBlock=some j->w3.heap.size<=j)/\Below w3.heap.size w3 wr) (fun _ i _=>g.ns.length - (intOf i).toNat)
 case atStart=>exact ⟨0,Nat.zero_le _,rfl,IL.nil _,(fun j hj=>by simp [Value.ownBlock] at hj),Below.refl _ _⟩
 case round =>
  obtain ⟨k,hk,rfl,hI,hv,hB⟩:=hrel
  obtain ⟨va,vc,rfl⟩:=il_len hI
  have HB:Hid (Below w3.heap.size w3 wr):=hB
  by_cases hlt:k < g.ns.length
  ·have klt:(k:Int) < (g.ns.length:Int):=by omega
   have cm:=(B3.out.2.1.later hB).cell (i:=k) (by rw [B3.out.1.len];exact hlt)
   have hst:Hid _:=offU_succ false M k
   have hrl:=offU_len false M k
   generalize hR:offU false M k=R at *
   obtain ⟨mv,hmv⟩:∃ mv,M.getD k false=mv:=⟨_,rfl⟩
   rw [hmv] at cm
   have HMV:Hid (M.getD k false=mv):=hmv
   clear hmv
   cases mv
   ·have HIA:Hid (IL (wr.alloc (.cells #[.int .i64 k] 3)) (.slice va R.length vc) R):=hI.later (bAl _ _)
    have HV:Hid (∀ j,(Value.slice va R.length vc).ownBlock=some j->w3.heap.size<=j):=hv
    have HLT:Hid (R.length<=2000000):=by show _<=_;omega
    have E:Hid (offU false M (k+1)=R++[(k:Int)]):=by show _=_;rw [hst.out,if_pos HMV.out]
    clear hst hI hv hB hrl
    go_wp2_with (at_builtin;refine wpList_il_append rfl _ _ rfl (.slice va R.length vc) R rfl HIA.out _ 1 k rfl (by simp) HLT.out ?_;intro a4 n4 c4 w4 ho4 hg4)
    obtain ⟨q1,q2⟩:=gBi (HB.out.alloc HB.out.size _) HV.out hg4
    have R4:Hid (IL w4 (.slice a4 n4 c4) (offU false M (k+1))/\(∀ j,(Value.slice a4 n4 c4).ownBlock=some j->w3.heap.size<=j)/\Below w3.heap.size w3 w4):=⟨by rw [E.out];exact ho4,q2,q1⟩
    clear q1 q2 ho4 hg4
    go_roundw
    case rel=>exact ⟨k+1,by omega,by go_num,R4.out⟩
    case measure=>simp [intOf];omega
   ·have E:Hid (IL wr (.slice va R.length vc) (offU false M (k+1))/\(∀ j,(Value.slice va R.length vc).ownBlock=some j->w3.heap.size<=j)/\Below w3.heap.size w3 wr):=⟨by rw [hst.out,if_neg (by rw [HMV.out];decide)];exact hI,hv,hB⟩
    clear hst hI hv hB hrl
    go_wp2
    go_roundw
    case rel=>exact ⟨k+1,by omega,by go_num,E.out⟩
    case measure=>simp [intOf];omega
  ·obtain rfl:k=g.ns.length:=by omega
   have R:Hid (LBs w (offU false M g.ns.length) (.slice va (offU false M g.ns.length).length vc) wr):=⟨hI,fun j hj=>Nat.le_trans B3.out.2.2.size (hv j hj),B3.out.2.2.trans (hB.mono B3.out.2.2.size)⟩
   clear hI hv hB
   go_wp2
   go_ret
   exact ⟨_,M,rfl,B3.out.1,R.out⟩
end Go.Proofs.YtockbobpmiagiaaGreatDoor
