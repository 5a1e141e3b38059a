import Derived.Test.YtmfapopclbnlpaaGreatDoorProg
import Derived.ProofKit
import Derived.WalkKit
import Derived.WalkSpells
import Derived.WalkLawsBesides
import Derived.IntWalk
import Derived.Test.YtmfapopclbnlpaaGreatDoorHx5
import Derived.Test.YtmfapopclbnlpaaGreatDoorHx14
import Derived.Test.YtmfapopclbnlpaaGreatDoorHx17
import Derived.Test.YtmfapopclbnlpaaGreatDoorHx22
import Derived.Test.YtmfapopclbnlpaaGreatDoorHx25
set_option linter.unusedVariables false
set_option linter.unusedSimpArgs false
set_option maxRecDepth 100000
set_option maxHeartbeats 4000000
namespace Go.Proofs.YtmfapopclbnlpaaGreatDoor
open Go Go.Proofs Go.RowKit Go.Vc
section
theorem me(r:RS)(s:Bs):(r.cd s).1={r with hk:=(r.cd s).1.hk,hs:=(r.cd s).1.hs,hn:=(r.cd s).1.hn,hp:=(r.cd s).1.hp,port:=(r.cd s).1.port}:=by
 unfold RS.cd;dsimp only
 (repeat' split)<;>rfl
theorem II(r:RS):r.bg.1={r with us:=r.bg.1.us,pw:=r.bg.1.pw,hk:=r.bg.1.hk,hs:=r.bg.1.hs,hn:=r.bg.1.hn,hp:=r.bg.1.hp,port:=r.bg.1.port,I:=aa r.I (aj r.sp r.I)}:=by
 unfold RS.bg;dsimp only;split
 ·split
  ·rfl
  ·rw [me];rfl
 ·rw [me];rfl
theorem Ez(r:RS):r.bj.1={r with hk:=r.bj.1.hk,hs:=r.bj.1.hs,hn:=r.bj.1.hn,hp:=r.bj.1.hp,pn:=r.bj.1.pn,pl:=r.bj.1.pl,I:=r.bj.1.I}:=by
 unfold RS.bj;dsimp only;split
 ·split
  ·rfl
  ·split
   ·rw [fp];rfl
   ·rw [fp];rfl
 ·rfl
theorem tY(r:RS):r.path.I.length<=r.I.length:=dA _ _
theorem y6(r:RS):r.ay.1.I.length<=r.I.length:=by rw [fp];exact dA _ _
theorem IJ(r:RS):r.bj.1.I.length<=r.I.length:=by
 unfold RS.bj;dsimp only;split
 ·have h2:=dA r.I 2
  split
  ·exact Nat.le_trans (tY _) h2
  ·have h3:=y6 (({r with hk:=1}:RS).cut 2)
   split
   ·exact Nat.le_trans (tY _) (Nat.le_trans (oE _ _) (Nat.le_trans h3 h2))
   ·exact Nat.le_trans h3 h2
 ·exact Nat.le_trans (tY _) (oE _ _)
theorem tZ:∀(f:Nat) (sp:Bool) (n:Int) (l:Bs),(cn f sp n l).length<=l.length
 |0,_,_,l=>Nat.le_refl _
 |f+1,sp,n,l=>by
  unfold cn;split
  ·exact Nat.le_trans (tZ f sp (n+1) _) (dA _ _)
  ·exact Nat.le_refl _
theorem ua(l:Bs):∀(r:Bs) (i:Nat),(ak l r i).2.1.length<=l.length
 |[],_=>Nat.zero_le _
 |c::r,i=>by
  unfold ak;split
  ·exact ua l r (i+1)
  ·split
   ·exact Nat.zero_le _
   ·split
    ·show(l.drop (i+1)).length<=_
     rw [List.length_drop];omega
    ·split
     ·exact ua l r (i+1)
     ·exact Nat.zero_le _
theorem jo(r:RS):r.tail={r with hq:=fb r.I r.hq,q:=fc r.sp r.I r.q,hf:=fe (bX r.I) r.hf,fg:=ff (bX r.I) r.fg,I:=fh (bX r.I)}:=by
 unfold RS.tail;rw [NT,LF]
theorem jW(l:Bs):(bX l).length<=l.length:=by
 unfold bX;split
 ·exact Nat.le_trans (dA _ _) (dA _ _)
 ·exact Nat.le_refl _
def p7(r:RS):PV:=(aE 0 (.raw (.pointer none)) (r.sc) (r.us) (r.pw) (r.hk) (r.hs) (r.hn) (r.hp) (r.port) (r.Rl) (r.pn) (r.pl) (r.hq) (r.q) (r.hf) (r.fg) (r.bare) (r.sp) (r.I))
def KT(o:RS×Int):PV->List PV->Prop:=fun v os=>v=.int .i64 o.2/\PV.bh (PV.aO dC) os=[p7 o.1]
def EA(k:PV->List PV->Prop)(sc us pw:Bs)(hk:Int)(hs:Bs)(hn:Int)(hp:List Int)(port:Int)(pn:Bool)(pl:List Bs)(hq:Bool)(q:Bs)(hf:Bool)(fg:Bs)(bare sp:Bool)(I:Bs):Prop:=∀(x:RS),(RS.mk sc us pw hk hs hn hp port false pn pl hq q hf fg bare sp I).ao=x.cp/\
 List.length x.I<=(300000:Nat)/\
 x.pl.length<=(100000:Nat)->
 (List.length x.I).le (300000:Nat)/\
 ((!decide (x.bg.2=(0:Int)))=true->
 k (PV.int .i64 x.bg.2) [ct (PV.raw (Go.Value.pointer none)) 1 x.sc (x.bg.1.us) (x.bg.1.pw) (x.bg.1.hk) (x.bg.1.hs) (x.bg.1.hn) (x.bg.1.hp) (x.bg.1.port) x.Rl x.pn x.pl x.hq x.q x.hf x.fg x.bare x.sp (aa x.I ↑(aj x.sp x.I))])/\
 ((!decide (x.bg.2=(0:Int)))=false->
 ((!x.sp)=true->
 True/\
 (ck (aa x.I ↑(aj x.sp x.I))=true->
 (aa x.I ↑(aj x.sp x.I)).length.le (300000:Nat)/\
 (List.length (bX (aa x.I ↑(aj x.sp x.I)))).le (300000:Nat)/\
 k (PV.int .i64 (0:Int)) [ct (PV.raw (Go.Value.pointer none)) 1 x.sc (x.bg.1.us) (x.bg.1.pw) (x.bg.1.hk) (x.bg.1.hs) (x.bg.1.hn) (x.bg.1.hp) (x.bg.1.port) x.Rl x.pn x.pl (fb (aa x.I ↑(aj x.sp x.I)) x.hq) (fc x.sp (aa x.I ↑(aj x.sp x.I)) x.q) (fe (bX (aa x.I ↑(aj x.sp x.I))) x.hf) (ff (bX (aa x.I ↑(aj x.sp x.I))) x.fg) x.bare x.sp (fh (bX (aa x.I ↑(aj x.sp x.I))))])/\
 (ck (aa x.I ↑(aj x.sp x.I))=false->
 True/\
 (List.length (if aB x.sp (aa x.I ↑(aj x.sp x.I)) (0:Int)=true then aa (aa x.I ↑(aj x.sp x.I)) (1:Int)else aa x.I ↑(aj x.sp x.I))<=(300000:Nat)/\
 x.pl.length<=(100000:Nat))/\
 (aa (if aB x.sp (aa x.I ↑(aj x.sp x.I)) (0:Int)=true then aa (aa x.I ↑(aj x.sp x.I)) (1:Int)else aa x.I ↑(aj x.sp x.I)) ↑(aI (if aB x.sp (aa x.I ↑(aj x.sp x.I)) (0:Int)=true then aa (aa x.I ↑(aj x.sp x.I)) (1:Int)else aa x.I ↑(aj x.sp x.I)))).length.le (300000:Nat)/\
 (List.length (bX (aa (if aB x.sp (aa x.I ↑(aj x.sp x.I)) (0:Int)=true then aa (aa x.I ↑(aj x.sp x.I)) (1:Int)else aa x.I ↑(aj x.sp x.I)) ↑(aI (if aB x.sp (aa x.I ↑(aj x.sp x.I)) (0:Int)=true then aa (aa x.I ↑(aj x.sp x.I)) (1:Int)else aa x.I ↑(aj x.sp x.I)))))).le (300000:Nat)/\
 k (PV.int .i64 (0:Int)) [ct (PV.raw (Go.Value.pointer none)) 1 x.sc (x.bg.1.us) (x.bg.1.pw) (x.bg.1.hk) (x.bg.1.hs) (x.bg.1.hn) (x.bg.1.hp) (x.bg.1.port) x.Rl ((bQ x.sp x.sc (ab (if aB x.sp (aa x.I ↑(aj x.sp x.I)) (0:Int)=true then aa (aa x.I ↑(aj x.sp x.I)) (1:Int)else aa x.I ↑(aj x.sp x.I)) ↑(aI (if aB x.sp (aa x.I ↑(aj x.sp x.I)) (0:Int)=true then aa (aa x.I ↑(aj x.sp x.I)) (1:Int)else aa x.I ↑(aj x.sp x.I)))) (x.pn,x.pl)).1) ((bQ x.sp x.sc (ab (if aB x.sp (aa x.I ↑(aj x.sp x.I)) (0:Int)=true then aa (aa x.I ↑(aj x.sp x.I)) (1:Int)else aa x.I ↑(aj x.sp x.I)) ↑(aI (if aB x.sp (aa x.I ↑(aj x.sp x.I)) (0:Int)=true then aa (aa x.I ↑(aj x.sp x.I)) (1:Int)else aa x.I ↑(aj x.sp x.I)))) (x.pn,x.pl)).2) (fb (aa (if aB x.sp (aa x.I ↑(aj x.sp x.I)) (0:Int)=true then aa (aa x.I ↑(aj x.sp x.I)) (1:Int)else aa x.I ↑(aj x.sp x.I)) ↑(aI (if aB x.sp (aa x.I ↑(aj x.sp x.I)) (0:Int)=true then aa (aa x.I ↑(aj x.sp x.I)) (1:Int)else aa x.I ↑(aj x.sp x.I)))) x.hq) (fc x.sp (aa (if aB x.sp (aa x.I ↑(aj x.sp x.I)) (0:Int)=true then aa (aa x.I ↑(aj x.sp x.I)) (1:Int)else aa x.I ↑(aj x.sp x.I)) ↑(aI (if aB x.sp (aa x.I ↑(aj x.sp x.I)) (0:Int)=true then aa (aa x.I ↑(aj x.sp x.I)) (1:Int)else aa x.I ↑(aj x.sp x.I)))) x.q) (fe (bX (aa (if aB x.sp (aa x.I ↑(aj x.sp x.I)) (0:Int)=true then aa (aa x.I ↑(aj x.sp x.I)) (1:Int)else aa x.I ↑(aj x.sp x.I)) ↑(aI (if aB x.sp (aa x.I ↑(aj x.sp x.I)) (0:Int)=true then aa (aa x.I ↑(aj x.sp x.I)) (1:Int)else aa x.I ↑(aj x.sp x.I))))) x.hf) (ff (bX (aa (if aB x.sp (aa x.I ↑(aj x.sp x.I)) (0:Int)=true then aa (aa x.I ↑(aj x.sp x.I)) (1:Int)else aa x.I ↑(aj x.sp x.I)) ↑(aI (if aB x.sp (aa x.I ↑(aj x.sp x.I)) (0:Int)=true then aa (aa x.I ↑(aj x.sp x.I)) (1:Int)else aa x.I ↑(aj x.sp x.I))))) x.fg) x.bare x.sp (fh (bX (aa (if aB x.sp (aa x.I ↑(aj x.sp x.I)) (0:Int)=true then aa (aa x.I ↑(aj x.sp x.I)) (1:Int)else aa x.I ↑(aj x.sp x.I)) ↑(aI (if aB x.sp (aa x.I ↑(aj x.sp x.I)) (0:Int)=true then aa (aa x.I ↑(aj x.sp x.I)) (1:Int)else aa x.I ↑(aj x.sp x.I))))))]))/\
 ((!x.sp)=!true->
 (false=true->
 (aa x.I ↑(aj x.sp x.I)).length.le (300000:Nat)/\
 (List.length (bX (aa x.I ↑(aj x.sp x.I)))).le (300000:Nat)/\
 k (PV.int .i64 (0:Int)) [ct (PV.raw (Go.Value.pointer none)) 1 x.sc (x.bg.1.us) (x.bg.1.pw) (x.bg.1.hk) (x.bg.1.hs) (x.bg.1.hn) (x.bg.1.hp) (x.bg.1.port) x.Rl x.pn x.pl (fb (aa x.I ↑(aj x.sp x.I)) x.hq) (fc x.sp (aa x.I ↑(aj x.sp x.I)) x.q) (fe (bX (aa x.I ↑(aj x.sp x.I))) x.hf) (ff (bX (aa x.I ↑(aj x.sp x.I))) x.fg) x.bare x.sp (fh (bX (aa x.I ↑(aj x.sp x.I))))])/\
 (false=false->
 True/\
 (List.length (if aB x.sp (aa x.I ↑(aj x.sp x.I)) (0:Int)=true then aa (aa x.I ↑(aj x.sp x.I)) (1:Int)else aa x.I ↑(aj x.sp x.I))<=(300000:Nat)/\
 x.pl.length<=(100000:Nat))/\
 (aa (if aB x.sp (aa x.I ↑(aj x.sp x.I)) (0:Int)=true then aa (aa x.I ↑(aj x.sp x.I)) (1:Int)else aa x.I ↑(aj x.sp x.I)) ↑(aI (if aB x.sp (aa x.I ↑(aj x.sp x.I)) (0:Int)=true then aa (aa x.I ↑(aj x.sp x.I)) (1:Int)else aa x.I ↑(aj x.sp x.I)))).length.le (300000:Nat)/\
 (List.length (bX (aa (if aB x.sp (aa x.I ↑(aj x.sp x.I)) (0:Int)=true then aa (aa x.I ↑(aj x.sp x.I)) (1:Int)else aa x.I ↑(aj x.sp x.I)) ↑(aI (if aB x.sp (aa x.I ↑(aj x.sp x.I)) (0:Int)=true then aa (aa x.I ↑(aj x.sp x.I)) (1:Int)else aa x.I ↑(aj x.sp x.I)))))).le (300000:Nat)/\
 k (PV.int .i64 (0:Int)) [ct (PV.raw (Go.Value.pointer none)) 1 x.sc (x.bg.1.us) (x.bg.1.pw) (x.bg.1.hk) (x.bg.1.hs) (x.bg.1.hn) (x.bg.1.hp) (x.bg.1.port) x.Rl ((bQ x.sp x.sc (ab (if aB x.sp (aa x.I ↑(aj x.sp x.I)) (0:Int)=true then aa (aa x.I ↑(aj x.sp x.I)) (1:Int)else aa x.I ↑(aj x.sp x.I)) ↑(aI (if aB x.sp (aa x.I ↑(aj x.sp x.I)) (0:Int)=true then aa (aa x.I ↑(aj x.sp x.I)) (1:Int)else aa x.I ↑(aj x.sp x.I)))) (x.pn,x.pl)).1) ((bQ x.sp x.sc (ab (if aB x.sp (aa x.I ↑(aj x.sp x.I)) (0:Int)=true then aa (aa x.I ↑(aj x.sp x.I)) (1:Int)else aa x.I ↑(aj x.sp x.I)) ↑(aI (if aB x.sp (aa x.I ↑(aj x.sp x.I)) (0:Int)=true then aa (aa x.I ↑(aj x.sp x.I)) (1:Int)else aa x.I ↑(aj x.sp x.I)))) (x.pn,x.pl)).2) (fb (aa (if aB x.sp (aa x.I ↑(aj x.sp x.I)) (0:Int)=true then aa (aa x.I ↑(aj x.sp x.I)) (1:Int)else aa x.I ↑(aj x.sp x.I)) ↑(aI (if aB x.sp (aa x.I ↑(aj x.sp x.I)) (0:Int)=true then aa (aa x.I ↑(aj x.sp x.I)) (1:Int)else aa x.I ↑(aj x.sp x.I)))) x.hq) (fc x.sp (aa (if aB x.sp (aa x.I ↑(aj x.sp x.I)) (0:Int)=true then aa (aa x.I ↑(aj x.sp x.I)) (1:Int)else aa x.I ↑(aj x.sp x.I)) ↑(aI (if aB x.sp (aa x.I ↑(aj x.sp x.I)) (0:Int)=true then aa (aa x.I ↑(aj x.sp x.I)) (1:Int)else aa x.I ↑(aj x.sp x.I)))) x.q) (fe (bX (aa (if aB x.sp (aa x.I ↑(aj x.sp x.I)) (0:Int)=true then aa (aa x.I ↑(aj x.sp x.I)) (1:Int)else aa x.I ↑(aj x.sp x.I)) ↑(aI (if aB x.sp (aa x.I ↑(aj x.sp x.I)) (0:Int)=true then aa (aa x.I ↑(aj x.sp x.I)) (1:Int)else aa x.I ↑(aj x.sp x.I))))) x.hf) (ff (bX (aa (if aB x.sp (aa x.I ↑(aj x.sp x.I)) (0:Int)=true then aa (aa x.I ↑(aj x.sp x.I)) (1:Int)else aa x.I ↑(aj x.sp x.I)) ↑(aI (if aB x.sp (aa x.I ↑(aj x.sp x.I)) (0:Int)=true then aa (aa x.I ↑(aj x.sp x.I)) (1:Int)else aa x.I ↑(aj x.sp x.I))))) x.fg) x.bare x.sp (fh (bX (aa (if aB x.sp (aa x.I ↑(aj x.sp x.I)) (0:Int)=true then aa (aa x.I ↑(aj x.sp x.I)) (1:Int)else aa x.I ↑(aj x.sp x.I)) ↑(aI (if aB x.sp (aa x.I ↑(aj x.sp x.I)) (0:Int)=true then aa (aa x.I ↑(aj x.sp x.I)) (1:Int)else aa x.I ↑(aj x.sp x.I))))))])))
def NU(k:PV->List PV->Prop)(sc us pw:Bs)(hk:Int)(hs:Bs)(hn:Int)(hp:List Int)(port:Int)(pn:Bool)(pl:List Bs)(hq:Bool)(q:Bs)(hf:Bool)(fg:Bs)(bare sp:Bool)(I:Bs):Prop:=∀(x:RS),(RS.mk sc us pw hk hs hn hp port false pn pl hq q hf fg bare sp I).ao=(x.path.tail,(0:Int))/\
 List.length x.I<=(300000:Nat)/\
 x.pl.length<=(100000:Nat)->
 (List.length x.I<=(300000:Nat)/\
 x.pl.length<=(100000:Nat))/\
 (aa x.I ↑(aI x.I)).length.le (300000:Nat)/\
 (List.length (bX (aa x.I ↑(aI x.I)))).le (300000:Nat)/\
 k (PV.int .i64 (0:Int)) [ct (PV.raw (Go.Value.pointer none)) 1 x.sc x.us x.pw x.hk x.hs x.hn x.hp x.port x.Rl ((bQ x.sp x.sc (ab x.I ↑(aI x.I)) (x.pn,x.pl)).1) ((bQ x.sp x.sc (ab x.I ↑(aI x.I)) (x.pn,x.pl)).2) (fb (aa x.I ↑(aI x.I)) x.hq) (fc x.sp (aa x.I ↑(aI x.I)) x.q) (fe (bX (aa x.I ↑(aI x.I))) x.hf) (ff (bX (aa x.I ↑(aI x.I))) x.fg) x.bare x.sp (fh (bX (aa x.I ↑(aI x.I))))]
theorem NV(sc us pw:Bs)(hk:Int)(hs:Bs)(hn:Int)(hp:List Int)(port:Int)(pn:Bool)(pl:List Bs)(hq:Bool)(q:Bs)(hf:Bool)(fg:Bs)(bare sp:Bool)(I:Bs):NU (KT (RS.mk sc us pw hk hs hn hp port false pn pl hq q hf fg bare sp I).ao) sc us pw hk hs hn hp port pn pl hq q hf fg bare sp I:=fun x ⟨h1,h2,h3⟩=>by
 have hl:=dA x.I (aI x.I);have hq':=jW (aa x.I (aI x.I));rw [h1];refine ⟨⟨h2,h3⟩,show(aa x.I (aI x.I)).length<=300000 by omega,show(bX (aa x.I (aI x.I))).length<=300000 by omega,rfl,?_⟩;show _=[p7 x.path.tail];rw [jo];rfl
set_option maxHeartbeats 4000000 in
theorem NW(sc us pw:Bs)(hk:Int)(hs:Bs)(hn:Int)(hp:List Int)(port:Int)(pn:Bool)(pl:List Bs)(hq:Bool)(q:Bs)(hf:Bool)(fg:Bs)(bare sp:Bool)(I:Bs):EA (KT (RS.mk sc us pw hk hs hn hp port false pn pl hq q hf fg bare sp I).ao) sc us pw hk hs hn hp port pn pl hq q hf fg bare sp I:=fun x ⟨h1,h2,h3⟩=>by
 have er:=II x;have e_sc:x.bg.1.sc=x.sc:=(by have h:=congrArg RS.sc er;exact h);have e_opq:x.bg.1.Rl=x.Rl:=(by have h:=congrArg RS.Rl er;exact h);have e_pn:x.bg.1.pn=x.pn:=(by have h:=congrArg RS.pn er;exact h);have e_pl:x.bg.1.pl=x.pl:=(by have h:=congrArg RS.pl er;exact h);have e_hq:x.bg.1.hq=x.hq:=(by have h:=congrArg RS.hq er;exact h);have e_q:x.bg.1.q=x.q:=(by have h:=congrArg RS.q er;exact h);have e_hf:x.bg.1.hf=x.hf:=(by have h:=congrArg RS.hf er;exact h);have e_fg:x.bg.1.fg=x.fg:=(by have h:=congrArg RS.fg er;exact h);have e_bare:x.bg.1.bare=x.bare:=(by have h:=congrArg RS.bare er;exact h);have e_sp:x.bg.1.sp=x.sp:=(by have h:=congrArg RS.sp er;exact h);have e_rst:x.bg.1.I=aa x.I (aj x.sp x.I):=(by have h:=congrArg RS.I er;exact h);have hl:=dA x.I (aj x.sp x.I);have hl2:=jW (aa x.I (aj x.sp x.I));have hs1:=oE x.sp (aa x.I (aj x.sp x.I));have pl1:∀R:Bs,R.length<=x.I.length->(aa R (aI R)).length<=300000/\(bX (aa R (aI R))).length<=300000:=fun R hR=>by
  have a:=dA R (aI R);have b:=jW (aa R (aI R));omega
 have ea:x.cp=if x.bg.2=0 then(if x.bg.1.sp=false/\ck x.bg.1.I=true then(x.bg.1.tail,0)else(x.bg.1.shl.path.tail,0))else x.bg:=rfl
 have fin:x.cp=(x.bg.1.shl.path.tail,0)->KT x.cp (.int .i64 0) [p7 {x with us:=x.bg.1.us,pw:=x.bg.1.pw,hk:=x.bg.1.hk,hs:=x.bg.1.hs,hn:=x.bg.1.hn,hp:=x.bg.1.hp,port:=x.bg.1.port,pn:=(bQ x.sp x.sc (ab (if aB x.sp (aa x.I (aj x.sp x.I)) 0=true then aa (aa x.I (aj x.sp x.I)) 1 else aa x.I (aj x.sp x.I)) (aI (if aB x.sp (aa x.I (aj x.sp x.I)) 0=true then aa (aa x.I (aj x.sp x.I)) 1 else aa x.I (aj x.sp x.I)))) (x.pn,x.pl)).1,pl:=(bQ x.sp x.sc (ab (if aB x.sp (aa x.I (aj x.sp x.I)) 0=true then aa (aa x.I (aj x.sp x.I)) 1 else aa x.I (aj x.sp x.I)) (aI (if aB x.sp (aa x.I (aj x.sp x.I)) 0=true then aa (aa x.I (aj x.sp x.I)) 1 else aa x.I (aj x.sp x.I)))) (x.pn,x.pl)).2,hq:=fb (aa (if aB x.sp (aa x.I (aj x.sp x.I)) 0=true then aa (aa x.I (aj x.sp x.I)) 1 else aa x.I (aj x.sp x.I)) (aI (if aB x.sp (aa x.I (aj x.sp x.I)) 0=true then aa (aa x.I (aj x.sp x.I)) 1 else aa x.I (aj x.sp x.I)))) x.hq,q:=fc x.sp (aa (if aB x.sp (aa x.I (aj x.sp x.I)) 0=true then aa (aa x.I (aj x.sp x.I)) 1 else aa x.I (aj x.sp x.I)) (aI (if aB x.sp (aa x.I (aj x.sp x.I)) 0=true then aa (aa x.I (aj x.sp x.I)) 1 else aa x.I (aj x.sp x.I)))) x.q,hf:=fe (bX (aa (if aB x.sp (aa x.I (aj x.sp x.I)) 0=true then aa (aa x.I (aj x.sp x.I)) 1 else aa x.I (aj x.sp x.I)) (aI (if aB x.sp (aa x.I (aj x.sp x.I)) 0=true then aa (aa x.I (aj x.sp x.I)) 1 else aa x.I (aj x.sp x.I))))) x.hf,fg:=ff (bX (aa (if aB x.sp (aa x.I (aj x.sp x.I)) 0=true then aa (aa x.I (aj x.sp x.I)) 1 else aa x.I (aj x.sp x.I)) (aI (if aB x.sp (aa x.I (aj x.sp x.I)) 0=true then aa (aa x.I (aj x.sp x.I)) 1 else aa x.I (aj x.sp x.I))))) x.fg,I:=fh (bX (aa (if aB x.sp (aa x.I (aj x.sp x.I)) 0=true then aa (aa x.I (aj x.sp x.I)) 1 else aa x.I (aj x.sp x.I)) (aI (if aB x.sp (aa x.I (aj x.sp x.I)) 0=true then aa (aa x.I (aj x.sp x.I)) 1 else aa x.I (aj x.sp x.I)))))}]:=fun h=>by
  rw [h];refine ⟨rfl,?_⟩;show [p7 _]=[p7 x.bg.1.shl.path.tail];rw [jo];unfold RS.path RS.shl;dsimp only;simp only [e_sc,e_opq,e_pn,e_pl,e_hq,e_q,e_hf,e_fg,e_bare,e_sp,e_rst]
 rw [h1];refine ⟨show x.I.length<=300000 from h2,fun hc=>?_,fun hc=>⟨fun hs=>⟨trivial,fun ht=>⟨show(aa x.I (aj x.sp x.I)).length<=300000 by omega,show(bX (aa x.I (aj x.sp x.I))).length<=300000 by omega,?_⟩,fun ht=>⟨trivial,⟨by omega,h3⟩,(pl1 _ (by omega)).1,(pl1 _ (by omega)).2,?_⟩⟩,fun hs=>⟨fun h=>(by cases h),fun _=>⟨trivial,⟨by omega,h3⟩,(pl1 _ (by omega)).1,(pl1 _ (by omega)).2,?_⟩⟩⟩⟩
 ·have hc':¬x.bg.2=0:=by simpa using hc
  rw [ea,if_neg hc'];exact ⟨rfl,congrArg (fun r=>[p7 r]) er.symm⟩
 ·have hc':x.bg.2=0:=by simpa using hc
  have hs':x.sp=false:=by simpa using hs
  rw [ea,if_pos hc',if_pos ⟨by rw [e_sp];exact hs',by rw [e_rst];exact ht⟩];refine ⟨rfl,?_⟩;show _=[p7 x.bg.1.tail];rw [jo];simp only [e_sc,e_opq,e_pn,e_pl,e_hq,e_q,e_hf,e_fg,e_bare,e_sp,e_rst];rfl
 ·have hc':x.bg.2=0:=by simpa using hc
  exact fin (by rw [ea,if_pos hc',if_neg (by rintro ⟨-,h⟩;rw [e_rst]at h;rw [ht]at h;cases h)])
 ·have hc':x.bg.2=0:=by simpa using hc
  have hs':x.sp=true:=by simpa using hs
  exact fin (by rw [ea,if_pos hc',if_neg (by rintro ⟨h,-⟩;rw [e_sp,hs']at h;cases h)])
def BN:cM:=bS [(75,lz),(76,pT),(77,iG),(78,dP),(79,ib),(80,ln),(81,mS),(82,iF),(88,ju),(89,mQ),(84,gK),(90,ow),(91,pO),(92,kp),(91,mT),(92,jv)]
def BO(sc us pw:Bs)(hk:Int)(hs:Bs)(hn:Int)(hp:List Int)(port:Int)(pn:Bool)(pl:List Bs)(hq:Bool)(q:Bs)(hf:Bool)(fg:Bs)(bare sp:Bool)(I:Bs):aP:=fun i=>bif Nat.beq i 1000002 then some ⟨(RS),(fun s x=>(VS.mk s.loc s.env [(0,aE 1 (.raw (.pointer none)) (x.sc) (x.us) (x.pw) (x.hk) (x.hs) (x.hn) (x.hp) (x.port) (x.Rl) (x.pn) (x.pl) (x.hq) (x.q) (x.hf) (x.fg) (x.bare) (x.sp) (x.I))])),(fun s=>RS.mk (s.bx 0 [0,0]).dS (s.bx 0 [0,1]).dS (s.bx 0 [0,2]).dS (s.bx 0 [0,3,0]).asInt (s.bx 0 [0,3,1]).dS (s.bx 0 [0,3,2]).asInt (s.bx 0 [0,3,3]).oI (s.bx 0 [0,4]).asInt (s.bx 0 [0,5]).asBool (s.bx 0 [0,6]).nh (s.bx 0 [0,6]).mh (s.bx 0 [0,7]).asBool (s.bx 0 [0,8]).dS (s.bx 0 [0,9]).asBool (s.bx 0 [0,10]).dS (s.bx 0 [2]).asBool (s.bx 0 [3]).asBool (s.bx 0 [4]).dS),(fun s x=>let r:=x;(RS.mk sc us pw hk hs hn hp port false pn pl hq q hf fg bare sp I).ao=r.cp/\r.I.length<=300000/\r.pl.length<=100000),(fun s x=>let r:=x;0),[]⟩else bif Nat.beq i 1000003 then some ⟨(RS),(fun s x=>(VS.mk s.loc s.env [(0,aE 1 (.raw (.pointer none)) (x.sc) (x.us) (x.pw) (x.hk) (x.hs) (x.hn) (x.hp) (x.port) (x.Rl) (x.pn) (x.pl) (x.hq) (x.q) (x.hf) (x.fg) (x.bare) (x.sp) (x.I))])),(fun s=>RS.mk (s.bx 0 [0,0]).dS (s.bx 0 [0,1]).dS (s.bx 0 [0,2]).dS (s.bx 0 [0,3,0]).asInt (s.bx 0 [0,3,1]).dS (s.bx 0 [0,3,2]).asInt (s.bx 0 [0,3,3]).oI (s.bx 0 [0,4]).asInt (s.bx 0 [0,5]).asBool (s.bx 0 [0,6]).nh (s.bx 0 [0,6]).mh (s.bx 0 [0,7]).asBool (s.bx 0 [0,8]).dS (s.bx 0 [0,9]).asBool (s.bx 0 [0,10]).dS (s.bx 0 [2]).asBool (s.bx 0 [3]).asBool (s.bx 0 [4]).dS),(fun s x=>let r:=x;(RS.mk sc us pw hk hs hn hp port false pn pl hq q hf fg bare sp I).ao=(r.path.tail,0)/\r.I.length<=300000/\r.pl.length<=100000),(fun s x=>let r:=x;0),[]⟩else bif Nat.beq i 1000001 then some ⟨(RS),(fun s x=>(VS.mk [] [] [])),(fun s=>RS.mk (s.bx 0 [0,0]).dS (s.bx 0 [0,1]).dS (s.bx 0 [0,2]).dS (s.bx 0 [0,3,0]).asInt (s.bx 0 [0,3,1]).dS (s.bx 0 [0,3,2]).asInt (s.bx 0 [0,3,3]).oI (s.bx 0 [0,4]).asInt (s.bx 0 [0,5]).asBool (s.bx 0 [0,6]).nh (s.bx 0 [0,6]).mh (s.bx 0 [0,7]).asBool (s.bx 0 [0,8]).dS (s.bx 0 [0,9]).asBool (s.bx 0 [0,10]).dS (s.bx 0 [2]).asBool (s.bx 0 [3]).asBool (s.bx 0 [4]).dS),(fun s x=>let r:=x;False),(fun s x=>let r:=x;0),[]⟩else none
theorem BP:df Tryz.prog az BN:=ah tT (ah yW (ah iB (ah dq (ah mP (ah lp (ah uK (ah iA (ah pN (ah uG (ah jV (ah qP (ah yM (ah re (ah uL (ah pQ ax)))))))))))))))
theorem IK(sc us pw:Bs)(hk:Int)(hs:Bs)(hn:Int)(hp:List Int)(port:Int)(pn:Bool)(pl:List Bs)(hq:Bool)(q:Bs)(hf:Bool)(fg:Bs)(bare sp:Bool)(I:Bs)(k:PV->List PV->Prop):b9 Tryz.prog BN az (BO sc us pw hk hs hn hp port pn pl hq q hf fg bare sp I) 1000 Tryz.f47 [.ptr 0 0] [aE 1 (.raw (.pointer none)) sc us pw hk hs hn hp port false pn pl hq q hf fg bare sp I] k=(
 (List.length I<=300000/\
 (ak I I 0).2.2=true)/\
 ((!decide ((0:Int)=0))=true->
 k (PV.int .i64 0) [ct (PV.raw (Go.Value.pointer none)) 1 ((ak I I 0).1) us pw hk hs hn hp port false pn pl hq q hf fg false (bK (ak I I 0).1) ((ak I I 0).2.1)])/\
 ((!decide ((0:Int)=0))=false->
 (false=true->
 (List.length (ak I I 0).2.1).le 300000/\
 (List.length (bX (ak I I 0).2.1)).le 300000/\
 k (PV.int .i64 0) [ct (PV.raw (Go.Value.pointer none)) 1 ((ak I I 0).1) us pw hk hs hn hp port false pn pl (fb (ak I I 0).2.1 hq) (fc (bK (ak I I 0).1) (ak I I 0).2.1 q) (fe (bX (ak I I 0).2.1) hf) (ff (bX (ak I I 0).2.1) fg) false (bK (ak I I 0).1) (fh (bX (ak I I 0).2.1))])/\
 (false=false->
 (decide ((ak I I 0).1=(bL #[102,105,108,101]))=true->
 (List.length (ak I I 0).2.1<=300000/\
 pl.length<=100000)/\
 ((!decide ((RS.mk (ak I I 0).1 us pw hk hs hn hp port false pn pl hq q hf fg false (bK (ak I I 0).1) (ak I I 0).2.1).bj.2=0))=true->
 k (PV.int .i64 (RS.mk (ak I I 0).1 us pw hk hs hn hp port false pn pl hq q hf fg false (bK (ak I I 0).1) (ak I I 0).2.1).bj.2) [ct (PV.raw (Go.Value.pointer none)) 1 ((ak I I 0).1) us pw ((RS.mk (ak I I 0).1 us pw hk hs hn hp port false pn pl hq q hf fg false (bK (ak I I 0).1) (ak I I 0).2.1).bj.1.hk) ((RS.mk (ak I I 0).1 us pw hk hs hn hp port false pn pl hq q hf fg false (bK (ak I I 0).1) (ak I I 0).2.1).bj.1.hs) ((RS.mk (ak I I 0).1 us pw hk hs hn hp port false pn pl hq q hf fg false (bK (ak I I 0).1) (ak I I 0).2.1).bj.1.hn) ((RS.mk (ak I I 0).1 us pw hk hs hn hp port false pn pl hq q hf fg false (bK (ak I I 0).1) (ak I I 0).2.1).bj.1.hp) port false ((RS.mk (ak I I 0).1 us pw hk hs hn hp port false pn pl hq q hf fg false (bK (ak I I 0).1) (ak I I 0).2.1).bj.1.pn) ((RS.mk (ak I I 0).1 us pw hk hs hn hp port false pn pl hq q hf fg false (bK (ak I I 0).1) (ak I I 0).2.1).bj.1.pl) hq q hf fg false (bK (ak I I 0).1) ((RS.mk (ak I I 0).1 us pw hk hs hn hp port false pn pl hq q hf fg false (bK (ak I I 0).1) (ak I I 0).2.1).bj.1.I)])/\
 ((!decide ((RS.mk (ak I I 0).1 us pw hk hs hn hp port false pn pl hq q hf fg false (bK (ak I I 0).1) (ak I I 0).2.1).bj.2=0))=false->
 (List.length (RS.mk (ak I I 0).1 us pw hk hs hn hp port false pn pl hq q hf fg false (bK (ak I I 0).1) (ak I I 0).2.1).bj.1.I).le 300000/\
 (List.length (bX (RS.mk (ak I I 0).1 us pw hk hs hn hp port false pn pl hq q hf fg false (bK (ak I I 0).1) (ak I I 0).2.1).bj.1.I)).le 300000/\
 k (PV.int .i64 0) [ct (PV.raw (Go.Value.pointer none)) 1 ((ak I I 0).1) us pw ((RS.mk (ak I I 0).1 us pw hk hs hn hp port false pn pl hq q hf fg false (bK (ak I I 0).1) (ak I I 0).2.1).bj.1.hk) ((RS.mk (ak I I 0).1 us pw hk hs hn hp port false pn pl hq q hf fg false (bK (ak I I 0).1) (ak I I 0).2.1).bj.1.hs) ((RS.mk (ak I I 0).1 us pw hk hs hn hp port false pn pl hq q hf fg false (bK (ak I I 0).1) (ak I I 0).2.1).bj.1.hn) ((RS.mk (ak I I 0).1 us pw hk hs hn hp port false pn pl hq q hf fg false (bK (ak I I 0).1) (ak I I 0).2.1).bj.1.hp) port false ((RS.mk (ak I I 0).1 us pw hk hs hn hp port false pn pl hq q hf fg false (bK (ak I I 0).1) (ak I I 0).2.1).bj.1.pn) ((RS.mk (ak I I 0).1 us pw hk hs hn hp port false pn pl hq q hf fg false (bK (ak I I 0).1) (ak I I 0).2.1).bj.1.pl) (fb (RS.mk (ak I I 0).1 us pw hk hs hn hp port false pn pl hq q hf fg false (bK (ak I I 0).1) (ak I I 0).2.1).bj.1.I hq) (fc (bK (ak I I 0).1) (RS.mk (ak I I 0).1 us pw hk hs hn hp port false pn pl hq q hf fg false (bK (ak I I 0).1) (ak I I 0).2.1).bj.1.I q) (fe (bX (RS.mk (ak I I 0).1 us pw hk hs hn hp port false pn pl hq q hf fg false (bK (ak I I 0).1) (ak I I 0).2.1).bj.1.I) hf) (ff (bX (RS.mk (ak I I 0).1 us pw hk hs hn hp port false pn pl hq q hf fg false (bK (ak I I 0).1) (ak I I 0).2.1).bj.1.I) fg) false (bK (ak I I 0).1) (fh (bX (RS.mk (ak I I 0).1 us pw hk hs hn hp port false pn pl hq q hf fg false (bK (ak I I 0).1) (ak I I 0).2.1).bj.1.I))]))/\
 (decide ((ak I I 0).1=(bL #[102,105,108,101]))=false->
 (false=false->
 (bK (ak I I 0).1=true->
 True/\
 (false=false->
 false=true->
 True)/\
 (false=true->
 VS.mk [] [(0,PV.ptr 0 0),(2,PV.int .i64 0),(3,PV.int .i64 0),(6,PV.bool !decide ((0:Int)=0)),(10,PV.bool false),(16,PV.bool (decide ((ak I I 0).1=(bL #[102,105,108,101])))),uZ 26,(28,PV.bool false),uZ 51,uZ 58,uZ 61,uZ 71,uZ 77,uZ 81,uZ 87,uZ 97] [((0:Nat),ct (PV.raw (Go.Value.pointer none)) 1 ((ak I I 0).1) us pw hk hs hn hp port false pn pl hq q hf fg false (bK (ak I I 0).1) ((ak I I 0).2.1))]=VS.mk [] [] []/\
 False/\
 ∀(x:RS),False->
 False)/\
 (false=false->
 (bK (ak I I 0).1=true->
 (List.length (ak I I 0).2.1).le 300000/\
 eK (VS.mk [] [(0,PV.ptr 0 0),(2,PV.int .i64 0),(3,PV.int .i64 0),(6,PV.bool !decide ((0:Int)=0)),(10,PV.bool false),(16,PV.bool (decide ((ak I I 0).1=(bL #[102,105,108,101])))),uZ 26,(28,PV.bool false),(51,PV.bool (bK (ak I I 0).1)),uZ 58,uZ 61,uZ 71,uZ 77,uZ 81,uZ 87,uZ 97] [((0:Nat),ct (PV.raw (Go.Value.pointer none)) 1 ((ak I I 0).1) us pw hk hs hn hp port false pn pl hq q hf fg false (bK (ak I I 0).1) (cn (List.length (ak I I 0).2.1) (bK (ak I I 0).1) 0 (ak I I 0).2.1))])/\
 ((RS.mk sc us pw hk hs hn hp port false pn pl hq q hf fg bare sp I).ao=(RS.mk (ak I I 0).1 us pw hk hs hn hp port false pn pl hq q hf fg false (bK (ak I I 0).1) (cn (List.length (ak I I 0).2.1) (bK (ak I I 0).1) 0 (ak I I 0).2.1)).cp/\
 List.length (cn (List.length (ak I I 0).2.1) (bK (ak I I 0).1) 0 (ak I I 0).2.1)<=300000/\
 (RS.mk (ak I I 0).1 us pw hk hs hn hp port false pn pl hq q hf fg false (bK (ak I I 0).1) (cn (List.length (ak I I 0).2.1) (bK (ak I I 0).1) 0 (ak I I 0).2.1)).pl.length<=100000)/\
 EA k sc us pw hk hs hn hp port pn pl hq q hf fg bare sp I)/\
 (bK (ak I I 0).1=false->
 True/\
 ((aq (ak I I 0).2.1 (bL #[47,47])).2=true->
 eK (VS.mk [] [(0,PV.ptr 0 0),(2,PV.int .i64 0),(3,PV.int .i64 0),(6,PV.bool !decide ((0:Int)=0)),(10,PV.bool false),(16,PV.bool (decide ((ak I I 0).1=(bL #[102,105,108,101])))),uZ 26,(28,PV.bool false),(51,PV.bool (bK (ak I I 0).1)),(58,PV.bool (aq (ak I I 0).2.1 (bL #[47,47])).2),uZ 61,uZ 71,uZ 77,uZ 81,uZ 87,uZ 97] [((0:Nat),ct (PV.raw (Go.Value.pointer none)) 1 ((ak I I 0).1) us pw hk hs hn hp port false pn pl hq q hf fg false (bK (ak I I 0).1) ((aq (ak I I 0).2.1 (bL #[47,47])).1))])/\
 ((RS.mk sc us pw hk hs hn hp port false pn pl hq q hf fg bare sp I).ao=(RS.mk (ak I I 0).1 us pw hk hs hn hp port false pn pl hq q hf fg false (bK (ak I I 0).1) (aq (ak I I 0).2.1 (bL #[47,47])).1).cp/\
 List.length (aq (ak I I 0).2.1 (bL #[47,47])).1<=300000/\
 (RS.mk (ak I I 0).1 us pw hk hs hn hp port false pn pl hq q hf fg false (bK (ak I I 0).1) (aq (ak I I 0).2.1 (bL #[47,47])).1).pl.length<=100000)/\
 EA k sc us pw hk hs hn hp port pn pl hq q hf fg bare sp I)/\
 ((aq (ak I I 0).2.1 (bL #[47,47])).2=false->
 True/\
 ((aq (aq (ak I I 0).2.1 (bL #[47,47])).1 (bL #[47])).2=true->
 eK (VS.mk [] [(0,PV.ptr 0 0),(2,PV.int .i64 0),(3,PV.int .i64 0),(6,PV.bool !decide ((0:Int)=0)),(10,PV.bool false),(16,PV.bool (decide ((ak I I 0).1=(bL #[102,105,108,101])))),uZ 26,(28,PV.bool false),(51,PV.bool (bK (ak I I 0).1)),(58,PV.bool (aq (ak I I 0).2.1 (bL #[47,47])).2),(61,PV.bool (aq (aq (ak I I 0).2.1 (bL #[47,47])).1 (bL #[47])).2),uZ 71,uZ 77,uZ 81,uZ 87,uZ 97] [((0:Nat),ct (PV.raw (Go.Value.pointer none)) 1 ((ak I I 0).1) us pw hk hs hn hp port false pn pl hq q hf fg false (bK (ak I I 0).1) ((aq (aq (ak I I 0).2.1 (bL #[47,47])).1 (bL #[47])).1))])/\
 ((RS.mk sc us pw hk hs hn hp port false pn pl hq q hf fg bare sp I).ao=((RS.mk (ak I I 0).1 us pw hk hs hn hp port false pn pl hq q hf fg false (bK (ak I I 0).1) (aq (aq (ak I I 0).2.1 (bL #[47,47])).1 (bL #[47])).1).path.tail,(0:Int))/\
 List.length (aq (aq (ak I I 0).2.1 (bL #[47,47])).1 (bL #[47])).1<=300000/\
 (RS.mk (ak I I 0).1 us pw hk hs hn hp port false pn pl hq q hf fg false (bK (ak I I 0).1) (aq (aq (ak I I 0).2.1 (bL #[47,47])).1 (bL #[47])).1).pl.length<=100000)/\
 NU k sc us pw hk hs hn hp port pn pl hq q hf fg bare sp I)/\
 ((aq (aq (ak I I 0).2.1 (bL #[47,47])).1 (bL #[47])).2=false->
 (List.length (aq (aq (ak I I 0).2.1 (bL #[47,47])).1 (bL #[47])).1).le 300000/\
 (aa (aq (aq (ak I I 0).2.1 (bL #[47,47])).1 (bL #[47])).1 ↑(aI (aq (aq (ak I I 0).2.1 (bL #[47,47])).1 (bL #[47])).1)).length.le 300000/\
 (List.length (bX (aa (aq (aq (ak I I 0).2.1 (bL #[47,47])).1 (bL #[47])).1 ↑(aI (aq (aq (ak I I 0).2.1 (bL #[47,47])).1 (bL #[47])).1)))).le 300000/\
 k (PV.int .i64 0) [ct (PV.raw (Go.Value.pointer none)) 0 ((ak I I 0).1) us pw hk hs hn hp port true false ([pH (ab (aq (aq (ak I I 0).2.1 (bL #[47,47])).1 (bL #[47])).1 ↑(aI (aq (aq (ak I I 0).2.1 (bL #[47,47])).1 (bL #[47])).1)) (aa (aq (aq (ak I I 0).2.1 (bL #[47,47])).1 (bL #[47])).1 ↑(aI (aq (aq (ak I I 0).2.1 (bL #[47,47])).1 (bL #[47])).1))]) (fb (aa (aq (aq (ak I I 0).2.1 (bL #[47,47])).1 (bL #[47])).1 ↑(aI (aq (aq (ak I I 0).2.1 (bL #[47,47])).1 (bL #[47])).1)) hq) (fc (bK (ak I I 0).1) (aa (aq (aq (ak I I 0).2.1 (bL #[47,47])).1 (bL #[47])).1 ↑(aI (aq (aq (ak I I 0).2.1 (bL #[47,47])).1 (bL #[47])).1)) q) (fe (bX (aa (aq (aq (ak I I 0).2.1 (bL #[47,47])).1 (bL #[47])).1 ↑(aI (aq (aq (ak I I 0).2.1 (bL #[47,47])).1 (bL #[47])).1))) hf) (ff (bX (aa (aq (aq (ak I I 0).2.1 (bL #[47,47])).1 (bL #[47])).1 ↑(aI (aq (aq (ak I I 0).2.1 (bL #[47,47])).1 (bL #[47])).1))) fg) false (bK (ak I I 0).1) (fh (bX (aa (aq (aq (ak I I 0).2.1 (bL #[47,47])).1 (bL #[47])).1 ↑(aI (aq (aq (ak I I 0).2.1 (bL #[47,47])).1 (bL #[47])).1))))])))))/\
 (bK (ak I I 0).1=!true->
 (false=false->
 false=true->
 True)/\
 (false=true->
 VS.mk [] [(0,PV.ptr 0 0),(2,PV.int .i64 0),(3,PV.int .i64 0),(6,PV.bool !decide ((0:Int)=0)),(10,PV.bool false),(16,PV.bool (decide ((ak I I 0).1=(bL #[102,105,108,101])))),uZ 26,(28,PV.bool false),uZ 51,uZ 58,uZ 61,uZ 71,uZ 77,uZ 81,uZ 87,uZ 97] [((0:Nat),ct (PV.raw (Go.Value.pointer none)) 1 ((ak I I 0).1) us pw hk hs hn hp port false pn pl hq q hf fg false (bK (ak I I 0).1) ((ak I I 0).2.1))]=VS.mk [] [] []/\
 False/\
 ∀(x:RS),False->
 False)/\
 (false=false->
 (bK (ak I I 0).1=true->
 (List.length (ak I I 0).2.1).le 300000/\
 eK (VS.mk [] [(0,PV.ptr 0 0),(2,PV.int .i64 0),(3,PV.int .i64 0),(6,PV.bool !decide ((0:Int)=0)),(10,PV.bool false),(16,PV.bool (decide ((ak I I 0).1=(bL #[102,105,108,101])))),uZ 26,(28,PV.bool false),(51,PV.bool (bK (ak I I 0).1)),uZ 58,uZ 61,uZ 71,uZ 77,uZ 81,uZ 87,uZ 97] [((0:Nat),ct (PV.raw (Go.Value.pointer none)) 1 ((ak I I 0).1) us pw hk hs hn hp port false pn pl hq q hf fg false (bK (ak I I 0).1) (cn (List.length (ak I I 0).2.1) (bK (ak I I 0).1) 0 (ak I I 0).2.1))])/\
 ((RS.mk sc us pw hk hs hn hp port false pn pl hq q hf fg bare sp I).ao=(RS.mk (ak I I 0).1 us pw hk hs hn hp port false pn pl hq q hf fg false (bK (ak I I 0).1) (cn (List.length (ak I I 0).2.1) (bK (ak I I 0).1) 0 (ak I I 0).2.1)).cp/\
 List.length (cn (List.length (ak I I 0).2.1) (bK (ak I I 0).1) 0 (ak I I 0).2.1)<=300000/\
 (RS.mk (ak I I 0).1 us pw hk hs hn hp port false pn pl hq q hf fg false (bK (ak I I 0).1) (cn (List.length (ak I I 0).2.1) (bK (ak I I 0).1) 0 (ak I I 0).2.1)).pl.length<=100000)/\
 EA k sc us pw hk hs hn hp port pn pl hq q hf fg bare sp I)/\
 (bK (ak I I 0).1=false->
 True/\
 ((aq (ak I I 0).2.1 (bL #[47,47])).2=true->
 eK (VS.mk [] [(0,PV.ptr 0 0),(2,PV.int .i64 0),(3,PV.int .i64 0),(6,PV.bool !decide ((0:Int)=0)),(10,PV.bool false),(16,PV.bool (decide ((ak I I 0).1=(bL #[102,105,108,101])))),uZ 26,(28,PV.bool false),(51,PV.bool (bK (ak I I 0).1)),(58,PV.bool (aq (ak I I 0).2.1 (bL #[47,47])).2),uZ 61,uZ 71,uZ 77,uZ 81,uZ 87,uZ 97] [((0:Nat),ct (PV.raw (Go.Value.pointer none)) 1 ((ak I I 0).1) us pw hk hs hn hp port false pn pl hq q hf fg false (bK (ak I I 0).1) ((aq (ak I I 0).2.1 (bL #[47,47])).1))])/\
 ((RS.mk sc us pw hk hs hn hp port false pn pl hq q hf fg bare sp I).ao=(RS.mk (ak I I 0).1 us pw hk hs hn hp port false pn pl hq q hf fg false (bK (ak I I 0).1) (aq (ak I I 0).2.1 (bL #[47,47])).1).cp/\
 List.length (aq (ak I I 0).2.1 (bL #[47,47])).1<=300000/\
 (RS.mk (ak I I 0).1 us pw hk hs hn hp port false pn pl hq q hf fg false (bK (ak I I 0).1) (aq (ak I I 0).2.1 (bL #[47,47])).1).pl.length<=100000)/\
 EA k sc us pw hk hs hn hp port pn pl hq q hf fg bare sp I)/\
 ((aq (ak I I 0).2.1 (bL #[47,47])).2=false->
 True/\
 ((aq (aq (ak I I 0).2.1 (bL #[47,47])).1 (bL #[47])).2=true->
 eK (VS.mk [] [(0,PV.ptr 0 0),(2,PV.int .i64 0),(3,PV.int .i64 0),(6,PV.bool !decide ((0:Int)=0)),(10,PV.bool false),(16,PV.bool (decide ((ak I I 0).1=(bL #[102,105,108,101])))),uZ 26,(28,PV.bool false),(51,PV.bool (bK (ak I I 0).1)),(58,PV.bool (aq (ak I I 0).2.1 (bL #[47,47])).2),(61,PV.bool (aq (aq (ak I I 0).2.1 (bL #[47,47])).1 (bL #[47])).2),uZ 71,uZ 77,uZ 81,uZ 87,uZ 97] [((0:Nat),ct (PV.raw (Go.Value.pointer none)) 1 ((ak I I 0).1) us pw hk hs hn hp port false pn pl hq q hf fg false (bK (ak I I 0).1) ((aq (aq (ak I I 0).2.1 (bL #[47,47])).1 (bL #[47])).1))])/\
 ((RS.mk sc us pw hk hs hn hp port false pn pl hq q hf fg bare sp I).ao=((RS.mk (ak I I 0).1 us pw hk hs hn hp port false pn pl hq q hf fg false (bK (ak I I 0).1) (aq (aq (ak I I 0).2.1 (bL #[47,47])).1 (bL #[47])).1).path.tail,(0:Int))/\
 List.length (aq (aq (ak I I 0).2.1 (bL #[47,47])).1 (bL #[47])).1<=300000/\
 (RS.mk (ak I I 0).1 us pw hk hs hn hp port false pn pl hq q hf fg false (bK (ak I I 0).1) (aq (aq (ak I I 0).2.1 (bL #[47,47])).1 (bL #[47])).1).pl.length<=100000)/\
 NU k sc us pw hk hs hn hp port pn pl hq q hf fg bare sp I)/\
 ((aq (aq (ak I I 0).2.1 (bL #[47,47])).1 (bL #[47])).2=false->
 (List.length (aq (aq (ak I I 0).2.1 (bL #[47,47])).1 (bL #[47])).1).le 300000/\
 (aa (aq (aq (ak I I 0).2.1 (bL #[47,47])).1 (bL #[47])).1 ↑(aI (aq (aq (ak I I 0).2.1 (bL #[47,47])).1 (bL #[47])).1)).length.le 300000/\
 (List.length (bX (aa (aq (aq (ak I I 0).2.1 (bL #[47,47])).1 (bL #[47])).1 ↑(aI (aq (aq (ak I I 0).2.1 (bL #[47,47])).1 (bL #[47])).1)))).le 300000/\
 k (PV.int .i64 0) [ct (PV.raw (Go.Value.pointer none)) 0 ((ak I I 0).1) us pw hk hs hn hp port true false ([pH (ab (aq (aq (ak I I 0).2.1 (bL #[47,47])).1 (bL #[47])).1 ↑(aI (aq (aq (ak I I 0).2.1 (bL #[47,47])).1 (bL #[47])).1)) (aa (aq (aq (ak I I 0).2.1 (bL #[47,47])).1 (bL #[47])).1 ↑(aI (aq (aq (ak I I 0).2.1 (bL #[47,47])).1 (bL #[47])).1))]) (fb (aa (aq (aq (ak I I 0).2.1 (bL #[47,47])).1 (bL #[47])).1 ↑(aI (aq (aq (ak I I 0).2.1 (bL #[47,47])).1 (bL #[47])).1)) hq) (fc (bK (ak I I 0).1) (aa (aq (aq (ak I I 0).2.1 (bL #[47,47])).1 (bL #[47])).1 ↑(aI (aq (aq (ak I I 0).2.1 (bL #[47,47])).1 (bL #[47])).1)) q) (fe (bX (aa (aq (aq (ak I I 0).2.1 (bL #[47,47])).1 (bL #[47])).1 ↑(aI (aq (aq (ak I I 0).2.1 (bL #[47,47])).1 (bL #[47])).1))) hf) (ff (bX (aa (aq (aq (ak I I 0).2.1 (bL #[47,47])).1 (bL #[47])).1 ↑(aI (aq (aq (ak I I 0).2.1 (bL #[47,47])).1 (bL #[47])).1))) fg) false (bK (ak I I 0).1) (fh (bX (aa (aq (aq (ak I I 0).2.1 (bL #[47,47])).1 (bL #[47])).1 ↑(aI (aq (aq (ak I I 0).2.1 (bL #[47,47])).1 (bL #[47])).1))))]))))))/\
 (false=!false->
 ((!false)=false->
 false=true->
 True)/\
 (true=true->
 VS.mk [] [(0,PV.ptr 0 0),(2,PV.int .i64 0),(3,PV.int .i64 0),(6,PV.bool !decide ((0:Int)=0)),(10,PV.bool false),(16,PV.bool (decide ((ak I I 0).1=(bL #[102,105,108,101])))),uZ 26,(28,PV.bool true),uZ 51,uZ 58,uZ 61,uZ 71,uZ 77,uZ 81,uZ 87,uZ 97] [((0:Nat),ct (PV.raw (Go.Value.pointer none)) 1 ((ak I I 0).1) us pw hk hs hn hp port false pn pl hq q hf fg false (bK (ak I I 0).1) ((ak I I 0).2.1))]=VS.mk [] [] []/\
 False/\
 ∀(x:RS),False->
 False)/\
 (true=false->
 (bK (ak I I 0).1=true->
 (List.length (ak I I 0).2.1).le 300000/\
 eK (VS.mk [] [(0,PV.ptr 0 0),(2,PV.int .i64 0),(3,PV.int .i64 0),(6,PV.bool !decide ((0:Int)=0)),(10,PV.bool false),(16,PV.bool (decide ((ak I I 0).1=(bL #[102,105,108,101])))),uZ 26,(28,PV.bool true),(51,PV.bool (bK (ak I I 0).1)),uZ 58,uZ 61,uZ 71,uZ 77,uZ 81,uZ 87,uZ 97] [((0:Nat),ct (PV.raw (Go.Value.pointer none)) 1 ((ak I I 0).1) us pw hk hs hn hp port false pn pl hq q hf fg false (bK (ak I I 0).1) (cn (List.length (ak I I 0).2.1) (bK (ak I I 0).1) 0 (ak I I 0).2.1))])/\
 ((RS.mk sc us pw hk hs hn hp port false pn pl hq q hf fg bare sp I).ao=(RS.mk (ak I I 0).1 us pw hk hs hn hp port false pn pl hq q hf fg false (bK (ak I I 0).1) (cn (List.length (ak I I 0).2.1) (bK (ak I I 0).1) 0 (ak I I 0).2.1)).cp/\
 List.length (cn (List.length (ak I I 0).2.1) (bK (ak I I 0).1) 0 (ak I I 0).2.1)<=300000/\
 (RS.mk (ak I I 0).1 us pw hk hs hn hp port false pn pl hq q hf fg false (bK (ak I I 0).1) (cn (List.length (ak I I 0).2.1) (bK (ak I I 0).1) 0 (ak I I 0).2.1)).pl.length<=100000)/\
 EA k sc us pw hk hs hn hp port pn pl hq q hf fg bare sp I)/\
 (bK (ak I I 0).1=false->
 True/\
 ((aq (ak I I 0).2.1 (bL #[47,47])).2=true->
 eK (VS.mk [] [(0,PV.ptr 0 0),(2,PV.int .i64 0),(3,PV.int .i64 0),(6,PV.bool !decide ((0:Int)=0)),(10,PV.bool false),(16,PV.bool (decide ((ak I I 0).1=(bL #[102,105,108,101])))),uZ 26,(28,PV.bool true),(51,PV.bool (bK (ak I I 0).1)),(58,PV.bool (aq (ak I I 0).2.1 (bL #[47,47])).2),uZ 61,uZ 71,uZ 77,uZ 81,uZ 87,uZ 97] [((0:Nat),ct (PV.raw (Go.Value.pointer none)) 1 ((ak I I 0).1) us pw hk hs hn hp port false pn pl hq q hf fg false (bK (ak I I 0).1) ((aq (ak I I 0).2.1 (bL #[47,47])).1))])/\
 ((RS.mk sc us pw hk hs hn hp port false pn pl hq q hf fg bare sp I).ao=(RS.mk (ak I I 0).1 us pw hk hs hn hp port false pn pl hq q hf fg false (bK (ak I I 0).1) (aq (ak I I 0).2.1 (bL #[47,47])).1).cp/\
 List.length (aq (ak I I 0).2.1 (bL #[47,47])).1<=300000/\
 (RS.mk (ak I I 0).1 us pw hk hs hn hp port false pn pl hq q hf fg false (bK (ak I I 0).1) (aq (ak I I 0).2.1 (bL #[47,47])).1).pl.length<=100000)/\
 EA k sc us pw hk hs hn hp port pn pl hq q hf fg bare sp I)/\
 ((aq (ak I I 0).2.1 (bL #[47,47])).2=false->
 True/\
 ((aq (aq (ak I I 0).2.1 (bL #[47,47])).1 (bL #[47])).2=true->
 eK (VS.mk [] [(0,PV.ptr 0 0),(2,PV.int .i64 0),(3,PV.int .i64 0),(6,PV.bool !decide ((0:Int)=0)),(10,PV.bool false),(16,PV.bool (decide ((ak I I 0).1=(bL #[102,105,108,101])))),uZ 26,(28,PV.bool true),(51,PV.bool (bK (ak I I 0).1)),(58,PV.bool (aq (ak I I 0).2.1 (bL #[47,47])).2),(61,PV.bool (aq (aq (ak I I 0).2.1 (bL #[47,47])).1 (bL #[47])).2),uZ 71,uZ 77,uZ 81,uZ 87,uZ 97] [((0:Nat),ct (PV.raw (Go.Value.pointer none)) 1 ((ak I I 0).1) us pw hk hs hn hp port false pn pl hq q hf fg false (bK (ak I I 0).1) ((aq (aq (ak I I 0).2.1 (bL #[47,47])).1 (bL #[47])).1))])/\
 ((RS.mk sc us pw hk hs hn hp port false pn pl hq q hf fg bare sp I).ao=((RS.mk (ak I I 0).1 us pw hk hs hn hp port false pn pl hq q hf fg false (bK (ak I I 0).1) (aq (aq (ak I I 0).2.1 (bL #[47,47])).1 (bL #[47])).1).path.tail,(0:Int))/\
 List.length (aq (aq (ak I I 0).2.1 (bL #[47,47])).1 (bL #[47])).1<=300000/\
 (RS.mk (ak I I 0).1 us pw hk hs hn hp port false pn pl hq q hf fg false (bK (ak I I 0).1) (aq (aq (ak I I 0).2.1 (bL #[47,47])).1 (bL #[47])).1).pl.length<=100000)/\
 NU k sc us pw hk hs hn hp port pn pl hq q hf fg bare sp I)/\
 ((aq (aq (ak I I 0).2.1 (bL #[47,47])).1 (bL #[47])).2=false->
 (List.length (aq (aq (ak I I 0).2.1 (bL #[47,47])).1 (bL #[47])).1).le 300000/\
 (aa (aq (aq (ak I I 0).2.1 (bL #[47,47])).1 (bL #[47])).1 ↑(aI (aq (aq (ak I I 0).2.1 (bL #[47,47])).1 (bL #[47])).1)).length.le 300000/\
 (List.length (bX (aa (aq (aq (ak I I 0).2.1 (bL #[47,47])).1 (bL #[47])).1 ↑(aI (aq (aq (ak I I 0).2.1 (bL #[47,47])).1 (bL #[47])).1)))).le 300000/\
 k (PV.int .i64 0) [ct (PV.raw (Go.Value.pointer none)) 0 ((ak I I 0).1) us pw hk hs hn hp port true false ([pH (ab (aq (aq (ak I I 0).2.1 (bL #[47,47])).1 (bL #[47])).1 ↑(aI (aq (aq (ak I I 0).2.1 (bL #[47,47])).1 (bL #[47])).1)) (aa (aq (aq (ak I I 0).2.1 (bL #[47,47])).1 (bL #[47])).1 ↑(aI (aq (aq (ak I I 0).2.1 (bL #[47,47])).1 (bL #[47])).1))]) (fb (aa (aq (aq (ak I I 0).2.1 (bL #[47,47])).1 (bL #[47])).1 ↑(aI (aq (aq (ak I I 0).2.1 (bL #[47,47])).1 (bL #[47])).1)) hq) (fc (bK (ak I I 0).1) (aa (aq (aq (ak I I 0).2.1 (bL #[47,47])).1 (bL #[47])).1 ↑(aI (aq (aq (ak I I 0).2.1 (bL #[47,47])).1 (bL #[47])).1)) q) (fe (bX (aa (aq (aq (ak I I 0).2.1 (bL #[47,47])).1 (bL #[47])).1 ↑(aI (aq (aq (ak I I 0).2.1 (bL #[47,47])).1 (bL #[47])).1))) hf) (ff (bX (aa (aq (aq (ak I I 0).2.1 (bL #[47,47])).1 (bL #[47])).1 ↑(aI (aq (aq (ak I I 0).2.1 (bL #[47,47])).1 (bL #[47])).1))) fg) false (bK (ak I I 0).1) (fh (bX (aa (aq (aq (ak I I 0).2.1 (bL #[47,47])).1 (bL #[47])).1 ↑(aI (aq (aq (ak I I 0).2.1 (bL #[47,47])).1 (bL #[47])).1))))]))))))))):=by kernel_rfl
attribute [local irreducible] Go.Vc.cD Go.Vc.b9
theorem BQ(sc us pw:Bs)(hk:Int)(hs:Bs)(hn:Int)(hp:List Int)(port:Int)(pn:Bool)(pl:List Bs)(hq:Bool)(q:Bs)(hf:Bool)(fg:Bs)(bare sp:Bool)(I:Bs):bE Tryz.prog az 47 [.ptr 0 0] [aE 1 (.raw (.pointer none)) sc us pw hk hs hn hp port false pn pl hq q hf fg bare sp I] (I.length<=300000/\pl.length<=100000/\(ak I I 0).2.2=true) (.int .i64 (RS.mk sc us pw hk hs hn hp port false pn pl hq q hf fg bare sp I).ao.2) [aE 0 (.raw (.pointer none)) ((RS.mk sc us pw hk hs hn hp port false pn pl hq q hf fg bare sp I).ao.1.sc) ((RS.mk sc us pw hk hs hn hp port false pn pl hq q hf fg bare sp I).ao.1.us) ((RS.mk sc us pw hk hs hn hp port false pn pl hq q hf fg bare sp I).ao.1.pw) ((RS.mk sc us pw hk hs hn hp port false pn pl hq q hf fg bare sp I).ao.1.hk) ((RS.mk sc us pw hk hs hn hp port false pn pl hq q hf fg bare sp I).ao.1.hs) ((RS.mk sc us pw hk hs hn hp port false pn pl hq q hf fg bare sp I).ao.1.hn) ((RS.mk sc us pw hk hs hn hp port false pn pl hq q hf fg bare sp I).ao.1.hp) ((RS.mk sc us pw hk hs hn hp port false pn pl hq q hf fg bare sp I).ao.1.port) ((RS.mk sc us pw hk hs hn hp port false pn pl hq q hf fg bare sp I).ao.1.Rl) ((RS.mk sc us pw hk hs hn hp port false pn pl hq q hf fg bare sp I).ao.1.pn) ((RS.mk sc us pw hk hs hn hp port false pn pl hq q hf fg bare sp I).ao.1.pl) ((RS.mk sc us pw hk hs hn hp port false pn pl hq q hf fg bare sp I).ao.1.hq) ((RS.mk sc us pw hk hs hn hp port false pn pl hq q hf fg bare sp I).ao.1.q) ((RS.mk sc us pw hk hs hn hp port false pn pl hq q hf fg bare sp I).ao.1.hf) ((RS.mk sc us pw hk hs hn hp port false pn pl hq q hf fg bare sp I).ao.1.fg) ((RS.mk sc us pw hk hs hn hp port false pn pl hq q hf fg bare sp I).ao.1.bare) ((RS.mk sc us pw hk hs hn hp port false pn pl hq q hf fg bare sp I).ao.1.sp) ((RS.mk sc us pw hk hs hn hp port false pn pl hq q hf fg bare sp I).ao.1.I)]:=xA (by kernel_rfl) BP (H:=BO sc us pw hk hs hn hp port pn pl hq q hf fg bare sp I) (fuel:=1000) Tryz.func47 (by kernel_rfl) (Nat.le_of_ble_eq_true rfl) fun hpre=>(IK sc us pw hk hs hn hp port pn pl hq q hf fg bare sp I _).mpr (by
 obtain ⟨hp1,hp2,hp3⟩:=hpre;have hRl:=ua I I 0;have hsch:(RS.mk sc us pw hk hs hn hp port false pn pl hq q hf fg bare sp I).iz=(RS.mk (ak I I 0).1 us pw hk hs hn hp port false pn pl hq q hf fg false (bK (ak I I 0).1) (ak I I 0).2.1,0):=if_pos hp3;have bA:=NW sc us pw hk hs hn hp port pn pl hq q hf fg bare sp I;have bB:=NV sc us pw hk hs hn hp port pn pl hq q hf fg bare sp I;have e0:(RS.mk sc us pw hk hs hn hp port false pn pl hq q hf fg bare sp I).ao=(if(ak I I 0).1=fL then(if(RS.mk (ak I I 0).1 us pw hk hs hn hp port false pn pl hq q hf fg false (bK (ak I I 0).1) (ak I I 0).2.1).bj.2=0 then((RS.mk (ak I I 0).1 us pw hk hs hn hp port false pn pl hq q hf fg false (bK (ak I I 0).1) (ak I I 0).2.1).bj.1.tail,0)else(RS.mk (ak I I 0).1 us pw hk hs hn hp port false pn pl hq q hf fg false (bK (ak I I 0).1) (ak I I 0).2.1).bj)else if bK (ak I I 0).1=true then(RS.mk (ak I I 0).1 us pw hk hs hn hp port false pn pl hq q hf fg false (bK (ak I I 0).1) (ak I I 0).2.1).skip.cp else if preB (ak I I 0).2.1 [47,47]=true then((RS.mk (ak I I 0).1 us pw hk hs hn hp port false pn pl hq q hf fg false (bK (ak I I 0).1) (ak I I 0).2.1).cut 2).cp else if preB (ak I I 0).2.1 [47]=true then(((RS.mk (ak I I 0).1 us pw hk hs hn hp port false pn pl hq q hf fg false (bK (ak I I 0).1) (ak I I 0).2.1).cut 1).path.tail,0)else((RS.mk (ak I I 0).1 us pw hk hs hn hp port false pn pl hq q hf fg false (bK (ak I I 0).1) (ak I I 0).2.1).rH.tail,0)):=by
  unfold RS.ao;rw [hsch];rfl
 generalize (ak I I 0).1=C at *;generalize (ak I I 0).2.1=R at *;have ef:(bL #[102,105,108,101])=fL:=rfl;have e22:(bL #[47,47])=([47,47]:Bs):=rfl;have e21:(bL #[47])=([47]:Bs):=rfl;have hR:R.length<=300000:=by omega
 have hQR:=jW R;have dz:∀(l:Bs) (z:Int),l.length<=300000->(aa l z).length<=300000:=fun l z h=>Nat.le_trans (dA l z) h;have qz:∀l:Bs,l.length<=300000->(bX l).length<=300000:=fun l h=>Nat.le_trans (jW l) h;have c2t:preB R [47,47]=true->aq R (bL #[47,47])=(aa R 2,true):=fun h=>by unfold aq;rw [e22,h];rfl
 have c2f:preB R [47,47]=false->aq R (bL #[47,47])=(R,false):=fun h=>by unfold aq;rw [e22,h];rfl
 have c1t:preB R [47]=true->aq R (bL #[47])=(aa R 1,true):=fun h=>by unfold aq;rw [e21,h];rfl
 have c1f:preB R [47]=false->aq R (bL #[47])=(R,false):=fun h=>by unfold aq;rw [e21,h];rfl
 have hfl:=IJ (RS.mk C us pw hk hs hn hp port false pn pl hq q hf fg false (bK C) R);have er:=Ez (RS.mk C us pw hk hs hn hp port false pn pl hq q hf fg false (bK C) R);refine ⟨⟨hp1,hp3⟩,fun h=>absurd h (by decide),fun _=>⟨fun h=>(by cases h),fun _=>⟨fun hC=>⟨⟨hR,hp2⟩,fun h3=>?_,fun h3=>⟨Nat.le_trans hfl hR,qz _ (Nat.le_trans hfl hR),?_⟩⟩,fun hC=>⟨fun _=>⟨fun hsp=>⟨trivial,fun _ h=>(by cases h),fun h=>(by cases h),fun _=>?_⟩,fun hsp=>⟨fun _ h=>(by cases h),fun h=>(by cases h),fun _=>?_⟩⟩,fun h=>absurd h (by decide)⟩⟩⟩⟩
 ·have h4:¬(RS.mk C us pw hk hs hn hp port false pn pl hq q hf fg false (bK C) R).bj.2=0:=by simpa using h3
  show KT (RS.mk sc us pw hk hs hn hp port false pn pl hq q hf fg bare sp I).ao _ _;rw [e0,if_pos (show C=fL from of_decide_eq_true hC),if_neg h4];exact ⟨rfl,congrArg (fun r=>[p7 r]) er.symm⟩
 ·have h4:(RS.mk C us pw hk hs hn hp port false pn pl hq q hf fg false (bK C) R).bj.2=0:=by simpa using h3
  show KT (RS.mk sc us pw hk hs hn hp port false pn pl hq q hf fg bare sp I).ao _ _;rw [e0,if_pos (show C=fL from of_decide_eq_true hC),if_pos h4];refine ⟨rfl,?_⟩;show _=[p7 (RS.mk C us pw hk hs hn hp port false pn pl hq q hf fg false (bK C) R).bj.1.tail];rw [jo];have gen:∀G:RS,G={(RS.mk C us pw hk hs hn hp port false pn pl hq q hf fg false (bK C) R)with hk:=G.hk,hs:=G.hs,hn:=G.hn,hp:=G.hp,pn:=G.pn,pl:=G.pl,I:=G.I}->p7 {(RS.mk C us pw hk hs hn hp port false pn pl hq q hf fg false (bK C) R)with hk:=G.hk,hs:=G.hs,hn:=G.hn,hp:=G.hp,pn:=G.pn,pl:=G.pl,hq:=fb G.I hq,q:=fc (bK C) G.I q,hf:=fe (bX G.I) hf,fg:=ff (bX G.I) fg,I:=fh (bX G.I)}=p7 {G with hq:=fb G.I G.hq,q:=fc G.sp G.I G.q,hf:=fe (bX G.I) G.hf,fg:=ff (bX G.I) G.fg,I:=fh (bX G.I)}:=fun G e=>by
   have a1:G.sc=C:=(by have h:=congrArg RS.sc e;exact h);have a2:G.us=us:=(by have h:=congrArg RS.us e;exact h);have a3:G.pw=pw:=(by have h:=congrArg RS.pw e;exact h);have a4:G.port=port:=(by have h:=congrArg RS.port e;exact h);have a5:G.Rl=false:=(by have h:=congrArg RS.Rl e;exact h);have a6:G.hq=hq:=(by have h:=congrArg RS.hq e;exact h);have a7:G.q=q:=(by have h:=congrArg RS.q e;exact h);have a8:G.hf=hf:=(by have h:=congrArg RS.hf e;exact h);have a9:G.fg=fg:=(by have h:=congrArg RS.fg e;exact h);have a10:G.bare=false:=(by have h:=congrArg RS.bare e;exact h);have a11:G.sp=bK C:=(by have h:=congrArg RS.sp e;exact h);simp only [a1,a2,a3,a4,a5,a6,a7,a8,a9,a10,a11]
  exact congrArg (fun y=>[y]) (gen _ er)
 ·have hC':¬C=fL:=of_decide_eq_false hC
  refine ⟨fun h=>⟨hR,rfl,⟨?_,Nat.le_trans (tZ _ _ _ _) hR,hp2⟩,bA⟩,fun h=>⟨trivial,?_⟩⟩
  ·rw [e0,if_neg hC',if_pos h];rfl
  have h':¬bK C=true:=by rw [h];decide
  cases h2:preB R [47,47]with
  |true=>
   rw [c2t h2];refine ⟨fun _=>⟨rfl,⟨?_,dz _ _ hR,hp2⟩,bA⟩,fun h=>(by cases h)⟩;rw [e0,if_neg hC',if_neg h',if_pos h2];rfl
  |false=>
   rw [c2f h2];refine ⟨fun h=>(by cases h),fun _=>⟨trivial,?_⟩⟩;show(_=true->_)/\(_=false->_);have h2':¬preB R [47,47]=true:=by rw [h2];decide
   cases h1:preB R [47]with
   |true=>
    rw [c1t h1];refine ⟨fun _=>⟨rfl,⟨?_,dz _ _ hR,hp2⟩,bB⟩,fun h=>(by cases h)⟩;rw [e0,if_neg hC',if_neg h',if_neg h2',if_pos h1];rfl
   |false=>
    rw [c1f h1];have h1':¬preB R [47]=true:=by rw [h1];decide
    refine ⟨fun h=>(by cases h),fun _=>⟨hR,dz _ _ hR,qz _ (dz _ _ hR),?_⟩⟩;show KT (RS.mk sc us pw hk hs hn hp port false pn pl hq q hf fg bare sp I).ao _ _;rw [e0,if_neg hC',if_neg h',if_neg h2',if_neg h1'];refine ⟨rfl,?_⟩;show _=[p7 (RS.mk C us pw hk hs hn hp port false pn pl hq q hf fg false (bK C) R).rH.tail];rw [jo];rfl
 ·have hC':¬C=fL:=of_decide_eq_false hC
  refine ⟨fun h=>⟨hR,rfl,⟨?_,Nat.le_trans (tZ _ _ _ _) hR,hp2⟩,bA⟩,fun h=>⟨trivial,?_⟩⟩
  ·rw [e0,if_neg hC',if_pos h];rfl
  have h':¬bK C=true:=by rw [h];decide
  cases h2:preB R [47,47]with
  |true=>
   rw [c2t h2];refine ⟨fun _=>⟨rfl,⟨?_,dz _ _ hR,hp2⟩,bA⟩,fun h=>(by cases h)⟩;rw [e0,if_neg hC',if_neg h',if_pos h2];rfl
  |false=>
   rw [c2f h2];refine ⟨fun h=>(by cases h),fun _=>⟨trivial,?_⟩⟩;show(_=true->_)/\(_=false->_);have h2':¬preB R [47,47]=true:=by rw [h2];decide
   cases h1:preB R [47]with
   |true=>
    rw [c1t h1];refine ⟨fun _=>⟨rfl,⟨?_,dz _ _ hR,hp2⟩,bB⟩,fun h=>(by cases h)⟩;rw [e0,if_neg hC',if_neg h',if_neg h2',if_pos h1];rfl
   |false=>
    rw [c1f h1];have h1':¬preB R [47]=true:=by rw [h1];decide
    refine ⟨fun h=>(by cases h),fun _=>⟨hR,dz _ _ hR,qz _ (dz _ _ hR),?_⟩⟩;show KT (RS.mk sc us pw hk hs hn hp port false pn pl hq q hf fg bare sp I).ao _ _;rw [e0,if_neg hC',if_neg h',if_neg h2',if_neg h1'];refine ⟨rfl,?_⟩;show _=[p7 (RS.mk C us pw hk hs hn hp port false pn pl hq q hf fg false (bK C) R).rH.tail];rw [jo];rfl)
end
theorem BR(sc us pw:Bs)(hk:Int)(hs:Bs)(hn:Int)(hp:List Int)(port:Int)(pn:Bool)(pl:List Bs)(hq:Bool)(q:Bs)(hf:Bool)(fg:Bs)(bare sp:Bool)(I:Bs):bE Tryz.prog az 47 [.ptr 0 0] [aE 1 (.raw (.pointer none)) sc us pw hk hs hn hp port false pn pl hq q hf fg bare sp I] (I.length<=300000/\pl.length<=100000) (.int .i64 (RS.mk sc us pw hk hs hn hp port false pn pl hq q hf fg bare sp I).ao.2) [aE 0 (.raw (.pointer none)) ((RS.mk sc us pw hk hs hn hp port false pn pl hq q hf fg bare sp I).ao.1.sc) ((RS.mk sc us pw hk hs hn hp port false pn pl hq q hf fg bare sp I).ao.1.us) ((RS.mk sc us pw hk hs hn hp port false pn pl hq q hf fg bare sp I).ao.1.pw) ((RS.mk sc us pw hk hs hn hp port false pn pl hq q hf fg bare sp I).ao.1.hk) ((RS.mk sc us pw hk hs hn hp port false pn pl hq q hf fg bare sp I).ao.1.hs) ((RS.mk sc us pw hk hs hn hp port false pn pl hq q hf fg bare sp I).ao.1.hn) ((RS.mk sc us pw hk hs hn hp port false pn pl hq q hf fg bare sp I).ao.1.hp) ((RS.mk sc us pw hk hs hn hp port false pn pl hq q hf fg bare sp I).ao.1.port) ((RS.mk sc us pw hk hs hn hp port false pn pl hq q hf fg bare sp I).ao.1.Rl) ((RS.mk sc us pw hk hs hn hp port false pn pl hq q hf fg bare sp I).ao.1.pn) ((RS.mk sc us pw hk hs hn hp port false pn pl hq q hf fg bare sp I).ao.1.pl) ((RS.mk sc us pw hk hs hn hp port false pn pl hq q hf fg bare sp I).ao.1.hq) ((RS.mk sc us pw hk hs hn hp port false pn pl hq q hf fg bare sp I).ao.1.q) ((RS.mk sc us pw hk hs hn hp port false pn pl hq q hf fg bare sp I).ao.1.hf) ((RS.mk sc us pw hk hs hn hp port false pn pl hq q hf fg bare sp I).ao.1.fg) ((RS.mk sc us pw hk hs hn hp port false pn pl hq q hf fg bare sp I).ao.1.bare) ((RS.mk sc us pw hk hs hn hp port false pn pl hq q hf fg bare sp I).ao.1.sp) ((RS.mk sc us pw hk hs hn hp port false pn pl hq q hf fg bare sp I).ao.1.I)]:=fun hpre=>by
 cases hb:(ak I I 0).2.2 with
 |true=>exact BQ sc us pw hk hs hn hp port pn pl hq q hf fg bare sp I ⟨hpre.1,hpre.2,hb⟩
 |false=>exact BL sc us pw hk hs hn hp port pn pl hq q hf fg bare sp I ⟨hpre.1,hb⟩
def IL:PV->PV
 |.row true (.strs []) 0=>.row true (.strs []) 1
 |y=>y
theorem BS {G:Gh}{w:World}{y:PV}{u:Value}(h:aN y G w u):aN (IL y) G w u:=by
 unfold IL;split
 ·rcases h with⟨h1,h2,h3⟩|⟨h1,-⟩
  ·exact .inl ⟨h1,h2,h3⟩
  ·cases h1
 ·exact h
theorem BT(y:PV):(IL y).wid=y.wid:=by
 unfold IL;split<;>rfl
theorem BU(sc us pw:Bs)(hk:Int)(hs:Bs)(hn:Int)(hp:List Int)(port:Int)(hq:Bool)(q:Bs)(hf:Bool)(fg:Bs)(bare sp:Bool)(I:Bs):bE Tryz.prog az 47 [.ptr 0 0] [aE 0 (.raw (.pointer none)) sc us pw hk hs hn hp port false true [] hq q hf fg bare sp I] (I.length<=300000) (.int .i64 (RS.mk sc us pw hk hs hn hp port false true ([]:List Bs) hq q hf fg bare sp I).ao.2) [aE 0 (.raw (.pointer none)) ((RS.mk sc us pw hk hs hn hp port false true ([]:List Bs) hq q hf fg bare sp I).ao.1.sc) ((RS.mk sc us pw hk hs hn hp port false true ([]:List Bs) hq q hf fg bare sp I).ao.1.us) ((RS.mk sc us pw hk hs hn hp port false true ([]:List Bs) hq q hf fg bare sp I).ao.1.pw) ((RS.mk sc us pw hk hs hn hp port false true ([]:List Bs) hq q hf fg bare sp I).ao.1.hk) ((RS.mk sc us pw hk hs hn hp port false true ([]:List Bs) hq q hf fg bare sp I).ao.1.hs) ((RS.mk sc us pw hk hs hn hp port false true ([]:List Bs) hq q hf fg bare sp I).ao.1.hn) ((RS.mk sc us pw hk hs hn hp port false true ([]:List Bs) hq q hf fg bare sp I).ao.1.hp) ((RS.mk sc us pw hk hs hn hp port false true ([]:List Bs) hq q hf fg bare sp I).ao.1.port) ((RS.mk sc us pw hk hs hn hp port false true ([]:List Bs) hq q hf fg bare sp I).ao.1.Rl) ((RS.mk sc us pw hk hs hn hp port false true ([]:List Bs) hq q hf fg bare sp I).ao.1.pn) ((RS.mk sc us pw hk hs hn hp port false true ([]:List Bs) hq q hf fg bare sp I).ao.1.pl) ((RS.mk sc us pw hk hs hn hp port false true ([]:List Bs) hq q hf fg bare sp I).ao.1.hq) ((RS.mk sc us pw hk hs hn hp port false true ([]:List Bs) hq q hf fg bare sp I).ao.1.q) ((RS.mk sc us pw hk hs hn hp port false true ([]:List Bs) hq q hf fg bare sp I).ao.1.hf) ((RS.mk sc us pw hk hs hn hp port false true ([]:List Bs) hq q hf fg bare sp I).ao.1.fg) ((RS.mk sc us pw hk hs hn hp port false true ([]:List Bs) hq q hf fg bare sp I).ao.1.bare) ((RS.mk sc us pw hk hs hn hp port false true ([]:List Bs) hq q hf fg bare sp I).ao.1.sp) ((RS.mk sc us pw hk hs hn hp port false true ([]:List Bs) hq q hf fg bare sp I).ao.1.I)]:=fun hpre F w vs bs τ hF hT hw hb hτ hl hx=>
 BR sc us pw hk hs hn hp port true [] hq q hf fg bare sp I ⟨hpre,Nat.zero_le _⟩ F w vs bs τ hF hT hw hb hτ ⟨hl.len,hl.nd,hl.bF,hl.mks,hl.inj,fun i x hx=>by
  cases i with
  |succ i=>cases hx
  |zero=>
   injection hx with hx
   subst hx;obtain ⟨b,h1,u,e,fz,g1,g2,g3,g4,g5⟩:=hl.box 0 _ rfl;exact ⟨b,h1,u,e,fz,g1,g2,aN.map (f:=IL) (fun y v _ hy=>BS hy) (fun y _=>BT y) g3,g4,g5⟩⟩ hx
theorem IM(sc us pw:Bs)(hk:Int)(hs:Bs)(hn:Int)(hp:List Int)(port:Int)(hq:Bool)(q:Bs)(hf:Bool)(fg:Bs)(bare sp:Bool)(I:Bs):ae Tryz.prog az 47 [.ptr 0 0,aE 0 (.raw (.pointer none)) sc us pw hk hs hn hp port false true [] hq q hf fg bare sp I] ⟨I.length<=300000,.tup [.int .i64 (RS.mk sc us pw hk hs hn hp port false true ([]:List Bs) hq q hf fg bare sp I).ao.2,aE 0 (.raw (.pointer none)) ((RS.mk sc us pw hk hs hn hp port false true ([]:List Bs) hq q hf fg bare sp I).ao.1.sc) ((RS.mk sc us pw hk hs hn hp port false true ([]:List Bs) hq q hf fg bare sp I).ao.1.us) ((RS.mk sc us pw hk hs hn hp port false true ([]:List Bs) hq q hf fg bare sp I).ao.1.pw) ((RS.mk sc us pw hk hs hn hp port false true ([]:List Bs) hq q hf fg bare sp I).ao.1.hk) ((RS.mk sc us pw hk hs hn hp port false true ([]:List Bs) hq q hf fg bare sp I).ao.1.hs) ((RS.mk sc us pw hk hs hn hp port false true ([]:List Bs) hq q hf fg bare sp I).ao.1.hn) ((RS.mk sc us pw hk hs hn hp port false true ([]:List Bs) hq q hf fg bare sp I).ao.1.hp) ((RS.mk sc us pw hk hs hn hp port false true ([]:List Bs) hq q hf fg bare sp I).ao.1.port) ((RS.mk sc us pw hk hs hn hp port false true ([]:List Bs) hq q hf fg bare sp I).ao.1.Rl) ((RS.mk sc us pw hk hs hn hp port false true ([]:List Bs) hq q hf fg bare sp I).ao.1.pn) ((RS.mk sc us pw hk hs hn hp port false true ([]:List Bs) hq q hf fg bare sp I).ao.1.pl) ((RS.mk sc us pw hk hs hn hp port false true ([]:List Bs) hq q hf fg bare sp I).ao.1.hq) ((RS.mk sc us pw hk hs hn hp port false true ([]:List Bs) hq q hf fg bare sp I).ao.1.q) ((RS.mk sc us pw hk hs hn hp port false true ([]:List Bs) hq q hf fg bare sp I).ao.1.hf) ((RS.mk sc us pw hk hs hn hp port false true ([]:List Bs) hq q hf fg bare sp I).ao.1.fg) ((RS.mk sc us pw hk hs hn hp port false true ([]:List Bs) hq q hf fg bare sp I).ao.1.bare) ((RS.mk sc us pw hk hs hn hp port false true ([]:List Bs) hq q hf fg bare sp I).ao.1.sp) ((RS.mk sc us pw hk hs hn hp port false true ([]:List Bs) hq q hf fg bare sp I).ao.1.I)]⟩:=ae.aZ (fun h=>by have e:List.isEmpty (PV.aC PV.bU [.ptr 0 0,aE 0 (.raw (.pointer none)) sc us pw hk hs hn hp port false true [] hq q hf fg bare sp I])=false:=(by kernel_rfl);exact Bool.noConfusion (e.symm.trans (congrArg List.isEmpty h))) (BU sc us pw hk hs hn hp port hq q hf fg bare sp I)
def mZ:List PV->Option aD:=fun xs=>match xs with
 |[.ptr 0 0,aE 0 (.raw (.pointer none)) sc us pw hk hs hn hp port false true [] hq q hf fg bare sp I]=>some ⟨I.length<=300000,.tup [.int .i64 (RS.mk sc us pw hk hs hn hp port false true ([]:List Bs) hq q hf fg bare sp I).ao.2,aE 0 (.raw (.pointer none)) ((RS.mk sc us pw hk hs hn hp port false true ([]:List Bs) hq q hf fg bare sp I).ao.1.sc) ((RS.mk sc us pw hk hs hn hp port false true ([]:List Bs) hq q hf fg bare sp I).ao.1.us) ((RS.mk sc us pw hk hs hn hp port false true ([]:List Bs) hq q hf fg bare sp I).ao.1.pw) ((RS.mk sc us pw hk hs hn hp port false true ([]:List Bs) hq q hf fg bare sp I).ao.1.hk) ((RS.mk sc us pw hk hs hn hp port false true ([]:List Bs) hq q hf fg bare sp I).ao.1.hs) ((RS.mk sc us pw hk hs hn hp port false true ([]:List Bs) hq q hf fg bare sp I).ao.1.hn) ((RS.mk sc us pw hk hs hn hp port false true ([]:List Bs) hq q hf fg bare sp I).ao.1.hp) ((RS.mk sc us pw hk hs hn hp port false true ([]:List Bs) hq q hf fg bare sp I).ao.1.port) ((RS.mk sc us pw hk hs hn hp port false true ([]:List Bs) hq q hf fg bare sp I).ao.1.Rl) ((RS.mk sc us pw hk hs hn hp port false true ([]:List Bs) hq q hf fg bare sp I).ao.1.pn) ((RS.mk sc us pw hk hs hn hp port false true ([]:List Bs) hq q hf fg bare sp I).ao.1.pl) ((RS.mk sc us pw hk hs hn hp port false true ([]:List Bs) hq q hf fg bare sp I).ao.1.hq) ((RS.mk sc us pw hk hs hn hp port false true ([]:List Bs) hq q hf fg bare sp I).ao.1.q) ((RS.mk sc us pw hk hs hn hp port false true ([]:List Bs) hq q hf fg bare sp I).ao.1.hf) ((RS.mk sc us pw hk hs hn hp port false true ([]:List Bs) hq q hf fg bare sp I).ao.1.fg) ((RS.mk sc us pw hk hs hn hp port false true ([]:List Bs) hq q hf fg bare sp I).ao.1.bare) ((RS.mk sc us pw hk hs hn hp port false true ([]:List Bs) hq q hf fg bare sp I).ao.1.sp) ((RS.mk sc us pw hk hs hn hp port false true ([]:List Bs) hq q hf fg bare sp I).ao.1.I)]⟩
 |_=>none
theorem uV:∀xs c,mZ xs=some c->ae Tryz.prog az 47 xs c:=fun xs c h=>by
 unfold mZ at h;split at h
 ·injection h with h;subst h;exact IM _ _ _ _ _ _ _ _ _ _ _ _ _ _ _
 ·cases h
section
theorem w6(l:Bs):(an l).length<=4*l.length:=by
 have h1:=s9 l;have h2:(dZ (aF l)).length<=(aF l).length:=(List.dropWhile_sublist _).length_le;have h3:(dt (dZ (aF l))).length<=(dZ (aF l)).length:=by
  unfold dt;rw [List.length_reverse];exact Nat.le_trans (List.dropWhile_sublist _).length_le (by rw [List.length_reverse];exact Nat.le_refl _)
 have h4:(an l).length<=(dt (dZ (aF l))).length:=List.length_filter_le _ _;omega
def F9:cM:=bS [(46,lP),(47,mZ)]
def Ga(l:Bs):aP:=fun i=>none
theorem EC:df Tryz.prog az F9:=ah om (ah uV ax)
theorem L1(l:Bs)(k:PV->Prop):cD Tryz.prog F9 az (Ga l) 1000 Tryz.f30 [.str l,.raw (.pointer none)] k=(
 (decide ((1048576:Int)<ai l)=true->
 k
 (PV.tup
 [bW 0 [] [] [] 0 [] 0 (List.replicate (8:Nat) 0) 0 false true [] false [] false [],
 PV.int .i64 6]))/\
 (decide ((1048576:Int)<ai l)=false->
 (List.length l).le 60000/\
 (List.length (an l)).le 300000/\
 ((!decide
 ((RS.mk [] [] [] 0 [] 0 (List.replicate (8:Nat) 0) (-1:Int) false true []
 false [] false [] false false (an l)).ao.2=
 (0:Int)))=
 true->
 k
 (PV.tup
 [bW 0 [] [] [] 0 [] 0 (List.replicate (8:Nat) 0) 0 false true [] false [] false [],
 PV.int .i64
 (RS.mk [] [] [] 0 [] 0 (List.replicate (8:Nat) 0) (-1:Int) false true []
 false [] false [] false false (an l)).ao.2]))/\
 ((!decide
 ((RS.mk [] [] [] 0 [] 0 (List.replicate (8:Nat) 0) (-1:Int) false true []
 false [] false [] false false (an l)).ao.2=
 (0:Int)))=
 false->
 k
 (PV.tup
 [bW 0 (RS.mk [] [] [] 0 [] 0 (List.replicate (8:Nat) 0) (-1:Int) false true []
 false [] false [] false false (an l)).ao.1.sc (RS.mk [] [] [] 0 [] 0 (List.replicate (8:Nat) 0) (-1:Int) false true []
 false [] false [] false false (an l)).ao.1.us (RS.mk [] [] [] 0 [] 0 (List.replicate (8:Nat) 0) (-1:Int) false true []
 false [] false [] false false (an l)).ao.1.pw (RS.mk [] [] [] 0 [] 0 (List.replicate (8:Nat) 0) (-1:Int) false
 true [] false [] false [] false false (an l)).ao.1.hk (RS.mk [] [] [] 0 [] 0 (List.replicate (8:Nat) 0) (-1:Int) false
 true [] false [] false [] false false (an l)).ao.1.hs (RS.mk [] [] [] 0 [] 0 (List.replicate (8:Nat) 0) (-1:Int) false
 true [] false [] false [] false false (an l)).ao.1.hn (RS.mk [] [] [] 0 [] 0 (List.replicate (8:Nat) 0) (-1:Int) false
 true [] false [] false [] false false (an l)).ao.1.hp (RS.mk [] [] [] 0 [] 0 (List.replicate (8:Nat) 0) (-1:Int) false true []
 false [] false [] false false (an l)).ao.1.port (RS.mk [] [] [] 0 [] 0 (List.replicate (8:Nat) 0) (-1:Int) false true []
 false [] false [] false false (an l)).ao.1.Rl (RS.mk [] [] [] 0 [] 0 (List.replicate (8:Nat) 0) (-1:Int) false true []
 false [] false [] false false (an l)).ao.1.pn (RS.mk [] [] [] 0 [] 0 (List.replicate (8:Nat) 0) (-1:Int) false true
 [] false [] false [] false false (an l)).ao.1.pl (RS.mk [] [] [] 0 [] 0 (List.replicate (8:Nat) 0) (-1:Int) false true []
 false [] false [] false false (an l)).ao.1.hq (RS.mk [] [] [] 0 [] 0 (List.replicate (8:Nat) 0) (-1:Int) false true []
 false [] false [] false false (an l)).ao.1.q (RS.mk [] [] [] 0 [] 0 (List.replicate (8:Nat) 0) (-1:Int) false true []
 false [] false [] false false (an l)).ao.1.hf (RS.mk [] [] [] 0 [] 0 (List.replicate (8:Nat) 0) (-1:Int) false true []
 false [] false [] false false (an l)).ao.1.fg,
 PV.int .i64 0])))):=by kernel_rfl
attribute [local irreducible] Go.Vc.cD
theorem L2(l:Bs):ae Tryz.prog az 30 [.str l,.raw (.pointer none)] ⟨l.length<=60000,.tup [bW 0 ((bV l).1).sc ((bV l).1).us ((bV l).1).pw ((bV l).1).hk ((bV l).1).hs ((bV l).1).hn ((bV l).1).hp ((bV l).1).port ((bV l).1).Rl ((bV l).1).pn ((bV l).1).pl ((bV l).1).hq ((bV l).1).q ((bV l).1).hf ((bV l).1).fg,.int .i64 (bV l).2]⟩:=bR (by kernel_rfl) EC (H:=Ga l) (fuel:=1000) Tryz.func30 (by kernel_rfl) fun hpre=>(L1 l _).mpr (by
 have hs:=w6 l;refine ⟨fun h=>absurd (of_decide_eq_true h) (by unfold ai;omega),fun _=>⟨show l.length<=60000 from hpre,show(an l).length<=300000 by omega,fun h=>?_,fun h=>?_⟩⟩
 ·have h2:(!decide ((RS.init (an l)).ao.2=0))=true:=h
  have h':¬(RS.init (an l)).ao.2=0:=fun e=>by rw [decide_eq_true e]at h2;cases h2
  have e:bV l=(Ql,(RS.init (an l)).ao.2):=if_neg h';rw [e];rfl
 ·have h2:(!decide ((RS.init (an l)).ao.2=0))=false:=h
  have h':(RS.init (an l)).ao.2=0:=Classical.byContradiction fun e=>by rw [decide_eq_false e]at h2;cases h2
  have e:bV l=(RS.init (an l)).ao:=if_pos h';rw [e,h'];rfl)
def p8:List PV->Option aD:=fun xs=>match xs with
 |[.str l,.raw (.pointer none)]=>some ⟨l.length<=60000,.tup [bW 0 ((bV l).1).sc ((bV l).1).us ((bV l).1).pw ((bV l).1).hk ((bV l).1).hs ((bV l).1).hn ((bV l).1).hp ((bV l).1).port ((bV l).1).Rl ((bV l).1).pn ((bV l).1).pl ((bV l).1).hq ((bV l).1).q ((bV l).1).hf ((bV l).1).fg,.int .i64 (bV l).2]⟩
 |_=>none
theorem y7:∀xs c,p8 xs=some c->ae Tryz.prog az 30 xs c:=fun xs c h=>by
 unfold p8 at h;split at h
 ·injection h with h;subst h;exact L2 _
 ·cases h
end
section
def BV:cM:=bS [(30,p8)]
def BW(l:Bs):aP:=fun i=>none
theorem BX:df Tryz.prog az BV:=ah y7 ax
theorem IN(l:Bs)(k:PV->Prop):cD Tryz.prog BV az (BW l) 1000 Tryz.f19 [.str l] k=(
 (List.length l).le 60000/\
 k
 (PV.tup
 [bW 0 (bV l).1.sc (bV l).1.us (bV l).1.pw (bV l).1.hk (bV l).1.hs (bV l).1.hn (bV l).1.hp (bV l).1.port (bV l).1.Rl (bV l).1.pn (bV l).1.pl (bV l).1.hq (bV l).1.q (bV l).1.hf (bV l).1.fg,
 PV.int .i64 (bV l).2])):=by kernel_rfl
attribute [local irreducible] Go.Vc.cD
theorem IP(l:Bs):ae Tryz.prog az 19 [.str l] ⟨l.length<=60000,.tup [bW 0 ((bV l).1).sc ((bV l).1).us ((bV l).1).pw ((bV l).1).hk ((bV l).1).hs ((bV l).1).hn ((bV l).1).hp ((bV l).1).port ((bV l).1).Rl ((bV l).1).pn ((bV l).1).pl ((bV l).1).hq ((bV l).1).q ((bV l).1).hf ((bV l).1).fg,.int .i64 (bV l).2]⟩:=bR (by kernel_rfl) BX (H:=BW l) (fuel:=1000) Tryz.func19 (by kernel_rfl) fun hpre=>(IN l _).mpr (by
 exact ⟨hpre,rfl⟩)
end
theorem qU:∀(l:List UInt8),(∀b∈l,(b.toNat:Int)<=127)->dU l=true:=by
 intro l
 induction l with
 |nil=>intro _;rfl
 |cons b t ih=>
  intro h;rw [ji (by simp),rA (l:=b::t) (by simp) (h b List.mem_cons_self)];exact ih fun c hc=>h c (List.mem_cons_of_mem _ hc)
def Qt(c:UInt8):Prop:=c=47\/c=92
inductive Sw:Bs->Bs->Prop
 |refl (l:Bs):Sw l l
 |same (c:UInt8) {l m:Bs}:c≠63->c≠35->Sw l m->Sw (c::l) (c::m)
 |swap (c d:UInt8) {l m:Bs}:Qt c->Qt d->Sw l m->Sw (c::l) (d::m)
theorem Qt.ne {c:UInt8}(h:Qt c):c≠63/\c≠35/\32<c.toNat/\c.toNat<128:=by
 rcases h with h|h<;>rw [h]<;>decide
theorem Sw.len {l m:Bs}(h:Sw l m):l.length=m.length:=by
 induction h with
 |refl l=>rfl
 |same c _ _ _ ih=>simp [ih]
 |swap c d _ _ _ ih=>simp [ih]
theorem Sw.ar {l m:Bs}(h:Sw l m):∀i,ar l i=ar m i\/(ar l i<128/\ar m i<128):=by
 induction h with
 |refl l=>exact fun i=>.inl rfl
 |same c _ _ _ ih=>
  intro i;cases i with
  |zero=>exact .inl rfl
  |succ i=>rw [dy,dy];exact ih i
 |swap c d hc hd _ ih=>
  intro i;cases i with
  |zero=>right;rw [dh,dh];have:=hc.ne;have:=hd.ne;omega
  |succ i=>rw [dy,dy];exact ih i
theorem OA {l m:Bs}(hl:l.length=m.length)(hb:∀i,ar l i=ar m i\/(ar l i<128/\ar m i<128)):∀(j i:Nat) (r lo hi:Int),128<=lo->nl l j i r lo hi=nl m j i r lo hi
 |0,_,_,_,_,_=>rfl
 |j+1,i,r,lo,hi,hlo=>by
  by_cases g:i<l.length/\lo<=ar l i/\ar l i<=hi
  ·have e:ar l i=ar m i:=by rcases hb i with h|h<;>omega
   rw [fC g,fC (l:=m) (by rw [<-hl,<-e];exact g),e];exact OA hl hb j (i+1) _ 128 191 (by omega)
  ·have g2:¬(i<m.length/\lo<=ar m i/\ar m i<=hi):=fun h=>by
    have e:ar l i=ar m i:=by rcases hb i with h'|h'<;>omega
    exact g (by rw [hl,e];exact h)
   rw [iQ g,iQ g2]
theorem Gb {l:Bs}:∀(j i:Nat) (r lo hi:Int),128<=lo->∀k,i<=k->k<(nl l j i r lo hi).2.1->128<=ar l k
 |0,i,_,_,_,_,k,h1,h2=>by exact absurd h2 (by show ¬k<i;omega)
 |j+1,i,r,lo,hi,hlo,k,h1,h2=>by
  by_cases g:i<l.length/\lo<=ar l i/\ar l i<=hi
  ·rw [fC g]at h2
   by_cases e:k=i
   ·subst e;omega
   ·exact Gb j (i+1) _ 128 191 (by omega) k (by omega) h2
  ·rw [iQ g]at h2
   exact absurd h2 (by show ¬k<i;omega)
theorem NX {l m:Bs}(h:Sw l m)(h0:0<l.length)(hh:128<=ar l 0):aL l=aL m/\∀k,k<(aL l).2.1->128<=ar l k:=by
 have e0:ar l 0=ar m 0:=by rcases h.ar 0 with h|h<;>omega
 have hl:=h.len;have key:aL l=nl l (j5 (ar l 0)).1.toNat 1 (ar l 0 %2^(6-(j5 (ar l 0)).1.toNat)) (j5 (ar l 0)).2.1 (j5 (ar l 0)).2.2\/aL l=(65533,1,false):=by
  unfold aL;rw [if_neg (by omega),if_neg (by omega)];split
  ·exact .inr rfl
  ·exact .inl rfl
 constructor
 ·have r1:∀{x:Bs},0<x.length->128<=ar x 0->aL x=if(j5 (ar x 0)).1=0 then(65533,1,false)else nl x (j5 (ar x 0)).1.toNat 1 (ar x 0 %2^(6-(j5 (ar x 0)).1.toNat)) (j5 (ar x 0)).2.1 (j5 (ar x 0)).2.2:=fun {x} h1 h2=>by
   unfold aL;rw [if_neg (by omega),if_neg (by omega)]
  rw [r1 h0 hh,r1 (x:=m) (by omega) (by omega),<-e0];rcases iD (ar l 0)with e|⟨q,lo,hi,e,-,-,h3,-⟩
  ·rw [e];rfl
  ·rw [e]
   dsimp only;rw [OA hl h.ar _ 1 _ _ _ h3]
 ·intro k hk
  by_cases e:k=0
  ·subst e;exact hh
  ·rcases key with key|key
   ·rw [key]at hk
    rcases iD (ar l 0)with e|⟨q,lo,hi,e,-,-,h3,-⟩
    ·rw [e]at hk;exact absurd hk (by show ¬k<1;omega)
    ·rw [e]at hk
     exact Gb _ _ _ _ _ h3 k (by omega) hk
   ·rw [key]at hk;exact absurd hk (by show ¬k<1;omega)
theorem IQ(c:UInt8)(l:Bs)(hc:c.toNat<128):aF (c::l)=c::aF l:=pV [] c l hc
theorem IS {l:Bs}(h0:0<l.length)(hh:∀k,k<(aL l).2.1->128<=ar l k):∀b∈encR (dN (aL l).1),128<=b.toNat:=fun b hb=>by
 rcases wY l h0 with e|e
 ·rw [e]at hb
  obtain ⟨k,hk,rfl⟩:=List.mem_iff_getElem.1 hb;rw [List.length_take]at hk;have:=hh k (by omega);unfold ar at this;rw [List.getD_eq_getElem?_getD,List.getElem?_eq_getElem (by omega)]at this;rw [List.getElem_take];have h2:(128:Int)<=((l[k]).toNat:Int):=this;omega
 ·rw [e]at hb
  exact (show ∀x:UInt8,x∈([239,191,189]:Bs)->128<=x.toNat by decide) b hb
theorem ub(c:UInt8)(l:Bs):dt (c::l)=if dt l=[]then(if pI c=true then []else [c])else c::dt l:=by
 unfold dt;rw [List.reverse_cons,List.dropWhile_append];by_cases h:l.reverse.dropWhile pI=[]
 ·rw [h]
  simp only [List.isEmpty_nil,if_true,List.reverse_nil];by_cases g:pI c=true
  ·rw [if_pos g,List.dropWhile_cons_of_pos g];rfl
  ·rw [if_neg g,List.dropWhile_cons_of_neg (by simpa using g)];rfl
 ·rw [if_neg (by simpa using h),if_neg (by simpa using h),List.reverse_append];rfl
def Zs(r:Bs):Bs:=(dt (aF r)).filter fun b=>!kn b
theorem w7:∀(S y:Bs),(∀b∈S,32<b.toNat)->S≠[]->dt (S++y)=S++dt y
 |[],_,_,h=>absurd rfl h
 |[c],y,h,_=>by
  have hc:=h c (List.mem_cons_self ..);have hl:pI c=false:=by unfold pI;rw [decide_eq_false_iff_not];omega
  show dt (c::y)=c::dt y;rw [ub,hl];by_cases e:dt y=[]
  ·rw [if_pos e,e];rfl
  ·rw [if_neg e]
 |c::d::S,y,h,_=>by
  have ih:=w7 (d::S) y (fun b hb=>h b (List.mem_cons_of_mem _ hb)) (by simp);show dt (c::((d::S)++y))=c::((d::S)++dt y);rw [ub,ih,if_neg (by simp)]
theorem IT {S r:Bs}(hS:∀b∈S,32<b.toNat/\(b.toNat:Int)<=127)(hne:S≠[]):an (S++r)=S++Zs r:=by
 unfold an Zs;have e1:aF (S++r)=S++aF r:=by
  have hv:=qU S fun b h=>(hS b h).2;have h1:=(CQ _ S r (Nat.le_refl _) hv).1;have h2:=iu hv;unfold aF at *;rw [h1,kS,h2]
 rw [e1,Ev,w7 S _ (fun b h=>(hS b h).1) hne,List.filter_append,LX fun b h=>Nat.le_of_lt (hS b h).1];intro b hb;cases S with
 |nil=>exact absurd rfl hne
 |cons x t=>
  have:b=x:=by simpa using hb.symm
  subst this;exact (hS b (List.mem_cons_self ..)).1
def QK(sc X:Bs):RS:={RS.init X with sc:=sc,sp:=true,bare:=false}
def lB:Bs->Bool
 |[]=>false
 |b::r=>List.isPrefixOf [46,120,110,45,45] (b::r)||lB r
theorem BY:∀l:Bs,hasB l [46,120,110,45,45]=lB l
 |[]=>rfl
 |b::r=>by
  have ih:=BY r;unfold hasB Lib.contains at ih⊢;have hge:-1<=Lib.index r [46,120,110,45,45]:=by
   have:∀l:Bs,-1<=Lib.index l [46,120,110,45,45]:=fun l=>by
    induction l with
    |nil=>decide
    |cons a l ih=>
     show -1<=(if List.isPrefixOf [46,120,110,45,45] (a::l)then 0 else if Lib.index l [46,120,110,45,45]==-1 then -1 else Lib.index l [46,120,110,45,45]+1:Int)
     (repeat' split)<;>omega
   exact this r
  show decide (0<=(if List.isPrefixOf [46,120,110,45,45] (b::r)then 0 else if Lib.index r [46,120,110,45,45]==-1 then -1 else Lib.index r [46,120,110,45,45]+1:Int))=(List.isPrefixOf [46,120,110,45,45] (b::r)||lB r)
  rw [<-ih];cases List.isPrefixOf [46,120,110,45,45] (b::r)with
  |true=>rfl
  |false=>
   simp only [Bool.false_eq_true,if_false,Bool.false_or];rw [decide_eq_decide];split
   ·rename_i h;have:=eq_of_beq h;omega
   ·rename_i h;have:¬Lib.index r [46,120,110,45,45]=-1:=fun e=>h (by rw [e];rfl)
    omega
theorem na:∀(t:Bs) (q:Bs),(∀b∈q,b.toNat≠46)->List.isPrefixOf q ((splitB 46 t).headD [])=List.isPrefixOf q t
 |[],q,_=>rfl
 |b::t,q,hq=>by
  have ih:=na t;unfold splitB;by_cases hb:(b.toNat:Int)=46
  ·rw [if_pos hb]
   cases q with
   |nil=>rfl
   |cons c q=>
    show false=((c==b)&&_);have:(c==b)=false:=by rw [beq_eq_false_iff_ne];intro e;exact hq c (List.mem_cons_self ..) (by rw [e];omega)
    rw [this];rfl
  ·rw [if_neg hb]
   have hne:=cf 46 t;cases hs:splitB 46 t with
   |nil=>exact absurd hs hne
   |cons p ps=>
    rw [hs]at ih;cases q with
    |nil=>rfl
    |cons c q=>
     show((c==b)&&List.isPrefixOf q p)=((c==b)&&List.isPrefixOf q t);rw [show List.isPrefixOf q p=List.isPrefixOf q t from ih q (fun x hx=>hq x (List.mem_cons_of_mem _ hx))]
theorem uc:∀t:Bs,(splitB 46 t).tail.any (fun p=>List.isPrefixOf s3 p)=lB t
 |[]=>rfl
 |b::t=>by
  have ih:=uc t;have ihh:=na t s3 (by decide);have hne:=cf 46 t;unfold splitB;by_cases hb:(b.toNat:Int)=46
  ·rw [if_pos hb]
   have e:b=46:=UInt8.toNat_inj.1 (by have:(46:UInt8).toNat=46:=rfl;omega);subst e;show(splitB 46 t).any _=(List.isPrefixOf s3 t||lB t);cases hs:splitB 46 t with
   |nil=>exact absurd hs hne
   |cons p ps=>
    rw [hs]at ih ihh;rw [List.any_cons,show List.isPrefixOf s3 p=List.isPrefixOf s3 t from ihh,show ps.any _=lB t from ih]
  ·rw [if_neg hb]
   have hx:lB (b::t)=lB t:=by
    show((46==b)&&_ ||lB t)=lB t;have:((46:UInt8)==b)=false:=by rw [beq_eq_false_iff_ne];intro e;exact hb (by rw [<-e];rfl)
    rw [this];rfl
   rw [hx,<-ih];cases hs:splitB 46 t with
   |nil=>exact absurd hs hne
   |cons p ps=>rfl
theorem PK(l:Bs):pG l=mM l:=by
 unfold pG mM;rw [show hasB l Px=lB l from BY l,<-uc l];have hh:=na l s3 (by decide);have hne:=cf 46 l;cases hs:splitB 46 l with
 |nil=>exact absurd hs hne
 |cons p ps=>
  rw [hs]at hh;rw [List.any_cons,show List.isPrefixOf s3 p=List.isPrefixOf s3 l from hh,<-Bool.or_assoc];rfl
theorem NY:∀n:Fin 256,Kk (n.val:Int)=lW (n.val:Int) true:=by decide+kernel
theorem NZ:∀n:Fin 256,cL.contains (UInt8.ofNat n.val)=lW (n.val:Int) false:=by decide+kernel
theorem Gc(p:Nat->Bool)(l:Bs)(h:∀b∈l,b.toNat<128):∀(f pos:Nat),l.length<=pos+f->decide (0<=Lib.idxFuncFrom p true ⟨l.toArray⟩ f pos)=(l.drop pos).any (fun b=>p b.toNat)
 |0,pos,hf=>by
  rw [List.drop_eq_nil_of_le (by omega)];rfl
 |f+1,pos,hf=>by
  unfold Lib.idxFuncFrom;have hsz:(⟨l.toArray⟩:ByteArray).size=l.length:=by show l.toArray.size=_;simp
  by_cases hp:pos<l.length
  ·have hp2:pos<(⟨l.toArray⟩:ByteArray).size:=by rw [hsz];exact hp
   have e:(⟨l.toArray⟩:ByteArray)[pos]'hp2=l[pos]'hp:=by show l.toArray[pos]'(by simpa using hp)=_;simp
   rw [if_pos hp2,decode_ascii _ pos hp2 (by rw [e];exact h _ (List.getElem_mem hp)),e,List.drop_eq_getElem_cons hp,List.any_cons];dsimp only;cases hc:p (l[pos]'hp).toNat with
   |true=>rw [if_pos rfl];simp
   |false=>rw [if_neg (by decide),Bool.false_or];exact Gc p l h f (pos+1) (by omega)
  ·rw [if_neg (by rw [hsz];exact hp),List.drop_eq_nil_of_le (by omega)];rfl
theorem PL {l:Bs}(h:l.all lf=true):Mf l=iy l true:=by
 unfold Mf Lib.idxFunc iy;rw [Gc _ l (fun b hb=>by have:=List.all_eq_true.1 h b hb;unfold lf at this;have:=of_decide_eq_true this;omega) _ 0 (by rw [show(⟨l.toArray⟩:ByteArray).size=l.length by show l.toArray.size=_;simp];omega)];show l.any _=l.any _;congr 1
 funext b
 exact NY ⟨b.toNat,b.toNat_lt⟩
theorem y8(l:Bs):jc l cL=iy l false:=by
 unfold jc Lib.containsAny iy
 induction l with
 |nil=>rfl
 |cons b r ih=>
  have hge:=Lib.indexAny_ge cL r;have hb:cL.contains b=lW (b.toNat:Int) false:=by
   have:=NZ ⟨b.toNat,b.toNat_lt⟩;dsimp only at this;rw [UInt8.ofNat_toNat]at this;exact this
  rw [List.any_cons,<-ih,show Lib.indexAny (b::r) cL=if cL.contains b then 0 else if Lib.indexAny r cL==-1 then -1 else Lib.indexAny r cL+1 from rfl,hb]
  cases lW (b.toNat:Int) false with
  |true=>simp
  |false=>
   rw [Bool.false_or];simp only [Bool.false_eq_true,if_false];by_cases h:Lib.indexAny r cL=-1
   ·rw [h];rfl
   ·have:(Lib.indexAny r cL==-1)=false:=by rw [beq_eq_false_iff_ne];exact h
    rw [this];simp only [Bool.false_eq_true,if_false];rw [decide_eq_decide];omega
theorem L3(t:Bs):iU t [93]=decide (0<t.length/\ar t (t.length-1)=93):=by
 unfold iU ai aa;by_cases h:0<t.length
 ·rw [decide_eq_true (show(([93]:Bs).length:Int)<=(t.length:Int) by show(1:Int)<=_;omega)]
  show decide (t.drop ((t.length:Int)-1).toNat=[93])=_;rw [show((t.length:Int)-1).toNat=t.length-1 by omega,List.drop_eq_getElem_cons (by omega),show t.length-1+1=t.length by omega,List.drop_length,decide_eq_decide];have hb:ar t (t.length-1)=((t[t.length-1]'(by omega)).toNat:Int):=by
   unfold ar;rw [List.getD_eq_getElem?_getD,List.getElem?_eq_getElem (by omega)];rfl
  rw [hb];simp only [List.cons.injEq,and_true];exact ⟨fun g=>⟨h,by rw [g];rfl⟩,fun g=>UInt8.toNat_inj.1 (by have:=g.2;have h2:(93:UInt8).toNat=93:=rfl;omega)⟩
 ·rw [decide_eq_false (show ¬(([93]:Bs).length:Int)<=(t.length:Int) by show ¬(1:Int)<=_;omega),cond_false]
  symm;exact decide_eq_false fun g=>h g.1
theorem BZ(l:Bs):preB l [91]=decide (0<l.length/\ar l 0=91):=by
 unfold preB Lib.hasPrefix;cases l with
 |nil=>rfl
 |cons b r=>
  show((91:UInt8)==b&&true)=decide (0<(b::r).length/\(b.toNat:Int)=91);rw [Bool.and_true,Bool.eq_iff_iff,beq_iff_eq,decide_eq_true_iff,<-UInt8.toNat_inj];have h2:(91:UInt8).toNat=91:=rfl;rw [List.length_cons];omega
def OB(R:Bs->List Int×Bool)(l:Bs):H5:=if ar l (l.length-1)=93/\(R ((l.take (l.length-1)).drop 1)).2=true then(4,[],0,(R ((l.take (l.length-1)).drop 1)).1,0)else ob 8
theorem N0(l:Bs)(h:0<l.length/\ar l 0=91):eL (l.drop 1)=OB gq l:=by
 cases l with
 |nil=>exact absurd h.1 (by decide)
 |cons b t=>
  have hb:(b.toNat:Int)=91:=h.2;show eL t=_;unfold eL OB gi;rw [L3];by_cases ht:0<t.length
  ·have e1:ar (b::t) ((b::t).length-1)=ar t (t.length-1):=by
    rw [List.length_cons,show t.length+1-1=(t.length-1)+1 by omega,o8]
   have e2:((b::t).take ((b::t).length-1)).drop 1=t.take (t.length-1):=by
    rw [List.length_cons,show t.length+1-1=(t.length-1)+1 by omega];rfl
   have e3:ab t (ai t-ai ([93]:Bs))=t.take (t.length-1):=by
    unfold ab ai;rw [show((t.length:Int)-(([93]:Bs).length:Int)).toNat=t.length-1 by show((t.length:Int)-1).toNat=_;omega]
   rw [e1,e2,e3];by_cases hc:ar t (t.length-1)=93
   ·rw [decide_eq_true (show 0<t.length/\ar t (t.length-1)=93 from⟨ht,hc⟩),if_pos rfl]
    dsimp only;by_cases hd:(gq (t.take (t.length-1))).2=true
    ·rw [if_pos ⟨rfl,hd⟩,if_pos ⟨hc,hd⟩]
    ·rw [if_neg (fun g=>hd g.2),if_neg (fun g=>hd g.2)]
   ·rw [decide_eq_false (fun g=>hc g.2)]
    show(if false=true/\(gq t).2=true then((4:Int),([]:Bs),(0:Int),(gq t).1,(0:Int))else ob 8)=_
    rw [if_neg (fun g=>by cases g.1),if_neg (fun g=>hc g.1)]
  ·have e:t=[]:=List.length_eq_zero_iff.1 (by omega)
   subst e;rw [decide_eq_false (fun g=>ht g.1)];show(if false=true/\(gq []).2=true then((4:Int),([]:Bs),(0:Int),(gq []).1,(0:Int))else ob 8)=_
   rw [if_neg (fun g=>by cases g.1),if_neg];intro g;have g2:(b.toNat:Int)=93:=g.1;omega
theorem N1(d:Bs):eF d=jm d:=by
 unfold eF jm;rw [PK,Nd];by_cases hu:mM d=true
 ·rw [if_pos hu,if_pos hu]
 ·have ha:d.all lf=true:=by
   cases e:d.all lf with
   |true=>rfl
   |false=>exact absurd (by unfold mM;rw [e];rfl) hu
  rw [if_neg hu,if_neg hu,PL ha];by_cases h:d=[]\/iy d true=true
  ·rw [if_pos h,if_pos h]
  ·rw [if_neg h,if_neg h]
   cases qY d with
   |false=>rw [if_pos rfl,if_neg (by decide)]
   |true=>rw [if_neg (by decide),if_pos rfl]
theorem B3(l:Bs)(h:0<l.length/\ar l 0=91):eL (l.drop 1)=oF l:=by
 rw [N0 l h,show gq=dj from funext M7];rfl
theorem L4(l:Bs):b5 l=eh l true:=by
 unfold b5 eh;rw [BZ];by_cases h:0<l.length/\ar l 0=91
 ·rw [decide_eq_true h,if_pos rfl,if_pos h,B3 l h]
 ·rw [decide_eq_false h,if_neg (by decide),if_neg h,if_neg (by decide),N1]
theorem IU(l:Bs):dD l=eh l false:=by
 unfold dD eh;rw [BZ,y8,show qD l=wu l from(Na 0 l).symm];by_cases h:0<l.length/\ar l 0=91
 ·rw [decide_eq_true h,if_pos rfl,if_pos h,B3 l h]
 ·rw [decide_eq_false h,if_neg (by decide),if_neg h,if_pos rfl]
theorem IV {l:Bs}{b:UInt8}(hb:b∈l)(h:b.toNat<128):b∈aF l:=by
 obtain ⟨x,y,e⟩:=List.append_of_mem hb;rw [e,pV x b y h];simp
theorem IW {l:Bs}(h:∀b∈l,b.toNat<128):aF l=l:=iu (qU l fun b hb=>by have:=h b hb;omega)
theorem L5:∀(n:Nat) (l:Bs),l.length<=n->(∃b∈l,128<=b.toNat)->∃b∈aF l,128<=b.toNat:=by
 intro n
 induction n with
 |zero=>
  rintro l hn ⟨b,hb,-⟩
  have:l=[]:=List.eq_nil_of_length_eq_zero (by omega);subst this;cases hb
 |succ n ih=>
  rintro l hn ⟨b,hb,h⟩
  cases l with
  |nil=>cases hb
  |cons c t=>
   by_cases hc:c.toNat<128
   ·rw [IQ c t hc]
    have hb:b∈t:=by
     rcases List.mem_cons.1 hb with rfl|hb
     ·omega
     ·exact hb
    obtain ⟨x,hx,hx2⟩:=ih t (by simp at hn;omega) ⟨b,hb,h⟩;exact ⟨x,List.mem_cons_of_mem _ hx,hx2⟩
   ·have hp:0<(c::t).length:=by simp
    obtain ⟨-,e2⟩:=NX (Sw.refl (c::t)) hp (by rw [dh];omega);rw [mY (c::t) hp];have hh:=IS hp e2;have hl:=su (dN (aL (c::t)).1);obtain ⟨x,r,hx⟩:∃x r,encR (dN (aL (c::t)).1)=x::r:=by
     cases e:encR (dN (aL (c::t)).1)with
     |nil=>rw [e]at hl;exact absurd hl (by decide)
     |cons x r=>exact ⟨x,r,rfl⟩
    rw [hx]at hh⊢;exact ⟨x,by simp,hh x (List.mem_cons_self ..)⟩
theorem ud {l:Bs}(h:l≠[]):aF l≠[]:=by
 rw [mY l (List.length_pos_iff.2 h)];intro e;have h1:=congrArg List.length e;have h2:=su (dN (aL l).1);rw [List.length_append,List.length_nil]at h1;omega
theorem PM:∀(n:Nat) (l:Bs),l.length<=n->∀b∈l,128<=b.toNat->b∈bI l:=by
 intro n
 induction n with
 |zero=>
  intro l hn b hb;have:l=[]:=List.eq_nil_of_length_eq_zero (by omega);subst this;cases hb
 |succ n ih=>
  intro l hn b hb h;cases l with
  |nil=>cases hb
  |cons x r=>
   rw [List.length_cons]at hn;rw [vY];split
   ·rename_i hc
    obtain ⟨c1,c2,c3,c4⟩:=hc;have hx:b≠x:=fun e=>by rw [e]at h;omega
    have hb:b∈r:=(List.mem_cons.1 hb).resolve_left hx;refine List.mem_cons_of_mem _ (ih _ (by rw [List.length_drop];omega) b ?_ h)
    match r,c2,c3,c4,hb with
    |p::q::t,_,c3,c4,hb=>
     have lt:∀y:UInt8,0<=gV (y.toNat:Int)->y.toNat<128:=fun y hy=>by
      unfold gV at hy
      (repeat' split at hy)<;>omega
     have hp:b≠p:=fun e=>by have:=lt p c3;rw [e]at h;omega
     have hq:b≠q:=fun e=>by have:=lt q c4;rw [e]at h;omega
     exact (List.mem_cons.1 ((List.mem_cons.1 hb).resolve_left hp)).resolve_left hq
   ·rcases List.mem_cons.1 hb with rfl|hb
    ·exact List.mem_cons_self ..
    ·exact List.mem_cons_of_mem _ (ih r (by omega) b hb h)
theorem L6 {l:Bs}(h:∃b∈l,128<=b.toNat):eF (br (bI l))=ob 9:=by
 obtain ⟨b,hb,h⟩:=h;have ha:(br (bI l)).all lf=false:=by
  rw [List.all_eq_false];refine ⟨l8 b,List.mem_map.2 ⟨b,PM _ l (Nat.le_refl _) b hb h,rfl⟩,?_⟩;unfold lf l8;rw [if_neg (by omega),decide_eq_true_iff];omega
 unfold eF;rw [if_pos (by unfold mM;rw [ha];rfl)]
theorem rJ {l:Bs}(h:(91:UInt8)∉l):preB l [91]=false:=by
 unfold preB Lib.hasPrefix;cases l with
 |nil=>rfl
 |cons b t=>
  have:¬(91:UInt8)=b:=fun e=>h (by rw [e];exact List.mem_cons_self ..);simp [List.isPrefixOf,this]
theorem B4 {l:Bs}{c:UInt8}(hc:c.toNat<128)(h:c∉l):c∉aF l:=fun hb=>by
 rcases pW _ l (Nat.le_refl _) c hb with h'|h'
 ·exact h h'
 ·omega
theorem B5 {l:Bs}(h:(91:UInt8)∉l):b5 (aF l)=b5 l:=by
 unfold b5;rw [rJ h,rJ (B4 (by decide) h),if_neg (by decide),if_neg (by decide)];by_cases hh:∃b∈l,128<=b.toNat
 ·rw [L6 hh,L6 (L5 _ l (Nat.le_refl _) hh)]
 ·rw [IW fun b hb=>by
   rcases Nat.lt_or_ge b.toNat 128 with g|g
   ·exact g
   ·exact absurd ⟨b,hb,g⟩ hh]
theorem PN:∀n:_root_.Fin 256,lW (n.val:Int) false=true->n.val<128:=by decide+kernel
theorem IX(l:Bs):iy (aF l) false=iy l false:=by
 have lt:∀b:UInt8,lW (b.toNat:Int) false=true->b.toNat<128:=fun b hb=>PN ⟨b.toNat,b.toNat_lt⟩ hb;unfold iy;rw [Bool.eq_iff_iff,List.any_eq_true,List.any_eq_true];constructor
 ·rintro ⟨b,hb,h⟩
  rcases pW _ l (Nat.le_refl _) b hb with h'|h'
  ·exact ⟨b,h',h⟩
  ·have:=lt b h;omega
 ·rintro ⟨b,hb,h⟩
  exact ⟨b,IV hb (lt b h),h⟩
theorem B6 {l:Bs}(h:(91:UInt8)∉l):dD (aF l)=dD l:=by
 have c1:jc (aF l) cL=jc l cL:=by rw [y8,y8,IX]
 unfold dD;rw [c1,rJ h,rJ (B4 (by decide) h),show qD (aF l)=qD l from Et 0 l];simp only [Bool.false_eq_true,if_false];by_cases e:l=[]
 ·subst e;rfl
 ·rw [if_neg e,if_neg (ud e)]
theorem L7(l:Bs):(b5 l).2.2.2.2=0\/b5 l=ob (b5 l).2.2.2.2:=by
 unfold b5 eL eF
 (repeat' split)<;>first|exact .inl rfl|exact .inr rfl
theorem IY(l:Bs):(dD l).2.2.2.2=0\/dD l=ob (dD l).2.2.2.2:=by
 unfold dD eL
 (repeat' split)<;>first|exact .inl rfl|exact .inr rfl
theorem Gd:∀(l:Bs) (w:Bool) (i:Int),(58:UInt8)∉l->kC w i l=-1
 |[],_,_,_=>rfl
 |b::l,w,i,h=>by
  have hb:¬b.toNat=58:=fun e=>h (by rw [show b=58 from UInt8.toNat_inj.1 e];exact List.mem_cons_self ..);have ih:=fun w i=>Gd l w i fun e=>h (List.mem_cons_of_mem _ e);unfold kC;rw [ih,ih,ih]
  (repeat' split)<;>first|rfl|(rename_i g;exact absurd g.1 hb)
def Mg(p:Bs):Prop:=∀b∈p,32<b.toNat/\b≠47/\b≠92/\b≠63/\b≠35/\b≠64/\b≠58/\b≠91/\b≠93
theorem Mg.plain {l:Bs}(h:Mg l):Mg (aF l):=fun b hb=>by
 rcases pW _ l (Nat.le_refl _) b hb with h'|h'
 ·exact h b h'
 ·refine ⟨by omega,?_,?_,?_,?_,?_,?_,?_,?_⟩<;>(intro e;rw [e]at h';revert h';decide)
theorem IZ {r:RS}{p:Bs}(hr:r.I=p++[47])(hp:Mg p)(hne:p≠[]):
 r.bg=({r with hk:=(aG r.sp p).1,hs:=(aG r.sp p).2.1,hn:=(aG r.sp p).2.2.1,hp:=(aG r.sp p).2.2.2.1,I:=[47]},(aG r.sp p).2.2.2.2):=by
 have he:aj r.sp r.I=p.length:=by
  unfold aj;rw [hr];refine K6 (fun b hb=>?_) (by cases r.sp<;>rfl)
  obtain ⟨-,h1,h2,h3,h4,-⟩:=hp b hb;cases r.sp<;>simp [fP,h1,h2,h3,h4]
 have hl:¬0<=aK p 64:=K7 fun b hb e=>(hp b hb).2.2.2.2.2.1 (UInt8.toNat_inj.1 (by show b.toNat=64;omega));have hcz:bl p=-1:=Gd p false 0 fun e=>(hp _ e).2.2.2.2.2.2.1 rfl;unfold RS.bg;dsimp only;rw [he,hr,H7,if_neg hl];unfold RS.cd;rw [hcz,if_neg (by rintro (h|⟨h,-⟩);exact absurd h (by decide);exact hne h)];dsimp only;rw [if_neg (show ¬(0:Int)< -1 by decide),if_neg (show ¬(0:Int)< -1 by decide)];have hs:(RS.cut r (p.length:Int)).sp=r.sp:=rfl;rw [hs];unfold RS.cut;rw [hr,H9];split
 ·rename_i g
  rw [g];rfl
 ·rfl
theorem w9 {r:RS}{p:Bs}(hr:r.I=p++[47])(hp:Mg p)(hne:p≠[]):
 r.cp.2=(aG r.sp p).2.2.2.2/\((aG r.sp p).2.2.2.2=0->r.cp.1.hk=(aG r.sp p).1/\r.cp.1.hs=(aG r.sp p).2.1/\r.cp.1.hn=(aG r.sp p).2.2.1/\r.cp.1.hp=(aG r.sp p).2.2.2.1):=by
 have ha:=IZ hr hp hne;unfold RS.cp;rw [ha];dsimp only;by_cases h0:(aG r.sp p).2.2.2.2=0
 ·rw [if_pos h0,if_neg (by rintro ⟨-,h⟩;revert h;decide)]
  dsimp only;rw [jo];exact ⟨h0.symm,fun _=>⟨rfl,rfl,rfl,rfl⟩⟩
 ·rw [if_neg h0]
  exact ⟨rfl,fun h=>absurd h h0⟩
theorem ue {S s:Bs}(hS:∀b∈S,32<b.toNat/\(b.toNat:Int)<=127)(hne:S≠[])(hs:Mg s):an (S++(s++[47]))=S++(aF s++[47]):=by
 have e1:aF (s++[47])=aF s++[47]:=pV s 47 [] (by decide);rw [IT hS hne];congr 1;unfold Zs;rw [e1,Eu (y:=47) (by simp) (by decide),LX];intro b hb;rcases List.mem_append.1 hb with hb|hb
 ·exact Nat.le_of_lt (hs.plain b hb).1
 ·have:b=47:=by simpa using hb
  subst this;decide
theorem B7 {p:RS×Int}{h:H5}(h1:p.2=h.2.2.2.2)(h2:h.2.2.2.2=0->p.1.hk=h.1/\p.1.hs=h.2.1/\p.1.hn=h.2.2.1/\p.1.hp=h.2.2.2.1)(h3:h.2.2.2.2=0\/h=ob h.2.2.2.2):
 (Pz p).2=h.2.2.2.2/\(Pz p).1.hk=h.1/\(Pz p).1.hs=h.2.1/\(Pz p).1.hn=h.2.2.1/\(Pz p).1.hp=h.2.2.2.1:=by
 unfold Pz;by_cases g:h.2.2.2.2=0
 ·rw [if_pos (by rw [h1];exact g)]
  exact ⟨h1,h2 g⟩
 ·rw [if_neg (by rw [h1];exact g)]
  have e:=h3.resolve_left g;refine ⟨h1,?_⟩;rw [e];exact ⟨rfl,rfl,rfl,rfl⟩
def Ge:Bs:=[104,116,116,112,58,47,47]
def I0:Bs:=[120,58,47,47]
theorem L8 {s:Bs}(hs:Mg s)(hne:s≠[]):
 (bV (Ge++(s++[47]))).2=(b5 s).2.2.2.2/\(bV (Ge++(s++[47]))).1.hk=(b5 s).1/\(bV (Ge++(s++[47]))).1.hs=(b5 s).2.1/\(bV (Ge++(s++[47]))).1.hn=(b5 s).2.2.1/\(bV (Ge++(s++[47]))).1.hp=(b5 s).2.2.2.1:=by
 have h91:(91:UInt8)∉s:=fun e=>(hs _ e).2.2.2.2.2.2.2.1 rfl;have hp:=hs.plain;have hpn:=ud hne;have st:=ue (S:=Ge) (s:=s) (by decide) (by decide) hs;have hp0:=uF (l:=Ge++(aF s++[47])) (p:=fH) (r:=47::47::(aF s++[47])) rfl (by decide) (by decide) (by decide) (by decide);have hk:cn (47::47::(aF s++[47]):Bs).length true 0 (47::47::(aF s++[47]))=aF s++[47]:=by
  rw [FH 47 _ (.inl rfl) (.inl rfl),FH 47 _ (.inl rfl) (.inl rfl)];refine Ia ?_;obtain ⟨b,t,e⟩:∃b t,aF s=b::t:=by
   cases e:aF s with
   |nil=>exact absurd e hpn
   |cons b t=>exact ⟨b,t,rfl⟩
  obtain ⟨-,h1,h2,-⟩:=hp b (by rw [e];exact List.mem_cons_self ..);rw [e];unfold aB;have e2:ag (b::t++[47]) 0=b.toNat:=rfl;have n1:¬(b.toNat:Int)=47:=fun e=>h1 (UInt8.toNat_inj.1 (by show b.toNat=47;omega));have n2:¬(b.toNat:Int)=92:=fun e=>h2 (UInt8.toNat_inj.1 (by show b.toNat=92;omega));rw [e2,decide_eq_false n1,decide_eq_false n2];cases decide ((0:Int)<ai (b::t++[47]:Bs))<;>rfl
 have e0:({RS.init (47::47::(aF s++[47]))with sc:=br fH,sp:=true,bare:=false}:RS).skip=QK fH (aF s++[47]):=by
  show({RS.init (47::47::(aF s++[47]))with sc:=fH,sp:=true,bare:=false,I:=cn (47::47::(aF s++[47]):Bs).length true 0 (47::47::(aF s++[47]))}:RS)=_
  rw [hk];rfl
 obtain ⟨q1,q2⟩:=w9 (r:=QK fH (aF s++[47])) rfl hp hpn;have hb:aG (QK fH (aF s++[47])).sp (aF s)=b5 s:=by
  show aG true (aF s)=_;unfold aG;rw [if_pos rfl,B5 h91]
 rw [hb]at q1 q2;have:=B7 q1 q2 (L7 s);unfold bV;rw [st,hp0,e0];exact this
theorem I1 {s:Bs}(hs:Mg s)(hne:s≠[]):
 (bV (I0++(s++[47]))).2=(dD s).2.2.2.2/\(bV (I0++(s++[47]))).1.hk=(dD s).1/\(bV (I0++(s++[47]))).1.hs=(dD s).2.1/\(bV (I0++(s++[47]))).1.hn=(dD s).2.2.1/\(bV (I0++(s++[47]))).1.hp=(dD s).2.2.2.1:=by
 have h91:(91:UInt8)∉s:=fun e=>(hs _ e).2.2.2.2.2.2.2.1 rfl;have hp:=hs.plain;have hpn:=ud hne;have st:=ue (S:=I0) (s:=s) (by decide) (by decide) hs;have hp0:=Bc (l:=I0++(aF s++[47])) (p:=[120]) (r:=aF s++[47]) rfl (by decide) (by decide) (by decide);obtain ⟨q1,q2⟩:=w9 (r:=({RS.init (aF s++[47])with sc:=br [120],sp:=false,bare:=false}:RS)) rfl hp hpn
 have hb:aG false (aF s)=dD s:=by
  unfold aG;rw [if_neg (by decide),B6 h91]
 rw [show({RS.init (aF s++[47])with sc:=br [120],sp:=false,bare:=false}:RS).sp=false from rfl,hb]at q1 q2
 have:=B7 q1 q2 (IY s);unfold bV;rw [st,hp0];exact this
end Go.Proofs.YtmfapopclbnlpaaGreatDoor
