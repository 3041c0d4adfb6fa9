package cluster

import (
	"splice/api"
	"splice/chief"
	"splice/host"
	"splice/slab"
)

// member is a node or the chief: one whose power may fail.
type member interface {
	Down() bool
	disk() *slab.Slab
	open(first api.Chart) api.Errno
}

// machine is what nodes and the chief have in common.
type machine struct {
	slab *slab.Slab
}

func (m machine) disk() *slab.Slab {
	return m.slab
}

// node is a host at work; while it is down, the one that went down.
type node struct {
	machine
	*host.Host
	number int
}

func (n *node) open(first api.Chart) api.Errno {
	h, e := host.Open(n.slab, n.number, first)
	if e == api.OK {
		n.Host = h
	}
	return e
}

// leader is a chief at work; while it is down, the one that went down.
type leader struct {
	machine
	*chief.Chief
}

func (l *leader) open(first api.Chart) api.Errno {
	k, e := chief.Open(l.slab, first)
	if e == api.OK {
		l.Chief = k
	}
	return e
}

// member is the node, or the chief, of an address; nil if there is none.
func (c *Cluster) member(who int) member {
	switch {
	case c == nil:
		return nil
	case who == api.AddrChief:
		return c.chief
	case c.node(who) == nowhere:
		return nil
	}
	return c.nodes[who]
}

// members are the nodes and the chief.
func (c *Cluster) members() []member {
	var l []member
	for _, n := range c.nodes {
		l = append(l, n)
	}
	return append(l, c.chief)
}

// wake opens a member anew. One that can't be opened stays down.
func (c *Cluster) wake(m member) api.Errno {
	m.disk().Wake()
	e := m.open(c.first)
	if e != api.OK {
		m.disk().Fail(api.Loss{Torn: nowhere})
	}
	return e
}
