package node

// connection: what a node knows of the way to its peer. Nothing of it is durable.
type connection struct {
	linked bool
	// greeted only while linked: the peer's hello has been answered.
	greeted bool
}

// link: there is a new connection, on which nothing was said yet.
func (c *connection) link() { *c = connection{linked: true} }

// greet: the peer's hello has been answered.
func (c *connection) greet() { c.greeted = true }

// unlink: there is no connection any more.
func (c *connection) unlink() { *c = connection{} }
